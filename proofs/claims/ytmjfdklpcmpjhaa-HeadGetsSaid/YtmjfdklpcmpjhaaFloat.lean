/- Own, of whatever program: a drawn region whose operations look at no memory, but for one that makes a block, anywhere among them, and a tail behind them all. -/
import Derived.StillTail
import Derived.Tactics
namespace Go.FloatYtmjfdklpcmpjhaa
open Go
set_option linter.unusedVariables false

section
variable {P : Program} {ops : Array Oper} {md : Region.Mode} {w w' : World} {m : Nat} {pA : Value}

/-- what the i-th operation yields: the maker its pointer, any other one value, in both worlds -/
def Gives (P : Program) (ops : Array Oper) (w w' : World) (m : Nat) (pA : Value) (i : Nat) (o : Oper) (v : Value) (a : Act) : Prop :=
  (i = m ∧ v = pA) ∨ (i ≠ m ∧ YieldsAt P ops w o v a ∧ YieldsAt P ops w' o v a)

theorem Gives.of_same {i : Nat} {o : Oper} {v : Value} {a a' : Act} (h : Gives P ops w w' m pA i o v a) (he : execOp a'.eval o = execOp a.eval o)
    (hw : Region.wanted o (yielded ops a'.tmps) = Region.wanted o (yielded ops a.tmps)) : Gives P ops w w' m pA i o v a' := by
  rcases h with h | ⟨h, h1, h2⟩
  · exact .inl h
  · exact .inr ⟨h, h1.of_same he hw, h2.of_same he hw⟩

/-- the first n, in any order -/
def Any (P : Program) (md : Region.Mode) (ops : Array Oper) (w w' : World) (m : Nat) (pA : Value) (n : Nat) (L : Array Bool → Act → Prop) : Nat → Array Bool → Act → Prop
  | 0, listed, a => L listed a
  | f + 1, listed, a => Region.ready md ops listed ≠ [] ∧ ∀ i ∈ Region.ready md ops listed, i < n ∧ ∃ o v, ops[i]? = some o ∧ Gives P ops w w' m pA i o v a ∧
      Any P md ops w w' m pA n L f (listed.setIfInBounds i true) (a.put o.dst v)

theorem Any.first {n i : Nat} {oi : Oper} {v : Value} {L : Array Bool → Act → Prop} (hi : ops[i]? = some oi) (hsel : ∀ (j : Nat) (o : Oper) cs b, ops[j]? = some o → o.op ≠ .select cs b)
    (hs : Region.sinkB md ops n = true) (hc : Region.chainB md ops n = true) (hn : n < ops.size) (hin : i < n) (hdone : ∀ listed a, L listed a → ∀ j ∈ Region.ready md ops listed, n ≤ j) :
    ∀ (f : Nat) (listed : Array Bool) (a : Act), HeadInv md ops n listed →
      (∀ j oj, ops[j]? = some oj → j ≠ i → listed.getD j true = false → (∀ e ∈ oj.after, Region.binds md e = true → e.on ≠ i) → oi.apart ops oj = true) →
      i ∈ Region.ready md ops listed → Gives P ops w w' m pA i oi v a →
      Any P md ops w w' m pA n L f (listed.setIfInBounds i true) (a.put oi.dst v) → Any P md ops w w' m pA n L (f + 1) listed a := by
  intro f
  induction f with
  | zero =>
    intro listed a inv _ hr hy H
    have hun := (mem_ready.1 hr).1
    refine ⟨fun h => (by rw [h] at hr; cases hr), fun j hj => ?_⟩
    have hjn : j < n := by
      rcases Nat.lt_or_ge j n with h | h
      · exact h
      · exact absurd hj (tail_waits hs hc hn inv _ i rfl hin hun j h)
    refine ⟨hjn, ?_⟩
    by_cases hji : j = i
    · subst hji; exact ⟨oi, v, hi, hy, H⟩
    · have := hdone _ _ H j (ready_mono hj hji)
      omega
  | succ f ih =>
    intro listed a inv hfree hr hy H
    have hun := (mem_ready.1 hr).1
    refine ⟨fun h => (by rw [h] at hr; cases hr), fun j hj => ?_⟩
    have hjn : j < n := by
      rcases Nat.lt_or_ge j n with h | h
      · exact h
      · exact absurd hj (tail_waits hs hc hn inv _ i rfl hin hun j h)
    refine ⟨hjn, ?_⟩
    by_cases hji : j = i
    · subst hji; exact ⟨oi, v, hi, hy, H⟩
    · obtain ⟨-, oj, vj, hoj, hyj, Hj⟩ := H.2 j (ready_mono hj hji)
      obtain ⟨hjun, oj', hoj', hall⟩ := mem_ready.1 hj
      obtain rfl : oj = oj' := Option.some.inj (hoj.symm.trans hoj')
      have hnot : ∀ e ∈ oj.after, Region.binds md e = true → e.on ≠ i := fun e he hb heq => by
        have h1 := hall e he hb
        rw [heq, getD_both hun] at h1
        cases h1
      obtain ⟨h1, h2, h3⟩ := Oper.apart_spec (hfree j oj hoj hji hjun hnot)
      have hsi := fun cs b => hsel i oi cs b hi
      have hsj := fun cs b => hsel j oj cs b hoj
      have hyj' : Gives P ops w w' m pA j oj vj a := hyj.of_same (execOp_put oj hsj a oi.dst v h1).symm (wanted_put oj a oi.dst v h1).symm
      have hyi' : Gives P ops w w' m pA i oi v (a.put oj.dst vj) := hy.of_same (execOp_put oi hsi a oj.dst vj h3) (wanted_put oi a oj.dst vj h3)
      have hfree' : ∀ k ok, ops[k]? = some ok → k ≠ i → (listed.setIfInBounds j true).getD k true = false →
          (∀ e ∈ ok.after, Region.binds md e = true → e.on ≠ i) → oi.apart ops ok = true := fun k ok hk hki hun hno => by
        refine hfree k ok hk hki ?_ hno
        by_cases hjk : j = k
        · subst hjk; exact hjun
        · rw [getD_set_ne true hjk] at hun; exact hun
      refine ⟨oj, vj, hoj, hyj', ih _ _ (inv.set hj hjn) hfree' (ready_mono hr (Ne.symm hji)) hyi' ?_⟩
      rw [Array.setIfInBounds_comm _ _ hji, ← Act.put_comm a v vj h2]
      exact Hj

/-- one by one, in the order of the text -/
def Lex (P : Program) (ops : Array Oper) (w w' : World) (m : Nat) (pA : Value) (Lq : Act → Prop) : Nat → List Oper → Act → Prop
  | _, [], a => Lq a
  | k, o :: rest, a => ∃ v, Gives P ops w w' m pA k o v a ∧ Lex P ops w w' m pA Lq (k + 1) rest (a.put o.dst v)

def lexHead2 (md : Region.Mode) (ops : Array Oper) (m g : Nat) : Nat → Nat → Array Bool → Bool
  | 0, k, listed => Region.seqB md ops g k listed && listed.getD m false
  | f + 1, k, listed => (Region.ready md ops listed).contains k && Region.free md ops listed k && lexHead2 md ops m g f (k + 1) (listed.setIfInBounds k true)

def floatB (md : Region.Mode) (ops : Array Oper) (n m : Nat) : Bool :=
  Region.noSelect ops && decide (n < ops.size) && decide (m < n) && Region.sinkB md ops n && Region.chainB md ops n && lexHead2 md ops m (ops.size - n) n 0 (Array.replicate ops.size false)

theorem any_lex {n g : Nat} {Lq : Act → Prop} (hsel : Region.noSelect ops = true) (hs : Region.sinkB md ops n = true) (hc : Region.chainB md ops n = true) (hn : n < ops.size) :
    ∀ (l : List Oper) (k : Nat) (listed : Array Bool) (a : Act), (∀ j, j < l.length → l[j]? = ops[k + j]?) → k + l.length = n → HeadInv md ops n listed →
    lexHead2 md ops m g l.length k listed = true → Lex P ops w w' m pA Lq k l a →
    Any P md ops w w' m pA n (fun listed' a' => (Region.seqB md ops g n listed' = true ∧ listed'.getD m false = true) ∧ Lq a') l.length listed a
  | [], k, listed, a, _, hk, _, hB, h => by
    have : k = n := by simpa using hk
    subst this
    simp only [List.length_nil, lexHead2, Bool.and_eq_true] at hB
    exact ⟨hB, h⟩
  | o :: l, k, listed, a, hl, hk, inv, hB, h => by
    have h0 : ops[k]? = some o := by simpa using (hl 0 (by simp)).symm
    simp only [List.length_cons, lexHead2, Bool.and_eq_true] at hB
    obtain ⟨⟨hr, hf⟩, hB'⟩ := hB
    have hkn : k < n := by simp only [List.length_cons] at hk; omega
    have hr' : k ∈ Region.ready md ops listed := by simpa using hr
    obtain ⟨v, hy, hK⟩ := h
    exact Any.first h0 (Region.noSelect_spec hsel) hs hc hn hkn (fun listed' a' hL => seqB_ready hL.1.1) l.length listed a inv (Region.free_spec h0 hf) hr' hy
      (any_lex hsel hs hc hn l (k + 1) _ _ (fun j hj => by have := hl (j + 1) (by simp; omega); simpa [Nat.add_assoc, Nat.add_comm 1 j] using this) (by simp only [List.length_cons] at hk; omega) (inv.set hr' hkn) hB' hK)

theorem getD_set_same {listed : Array Bool} {i : Nat} (h : i < listed.size) : (listed.setIfInBounds i true).getD i false = true := by
  simp [h]

theorem any_sound {n g : Nat} {L : Array Bool → Act → Prop} {Q' : Exit → Act → World → Prop} {oA : Oper} (hm : ops[m]? = some oA) (hgA : ∀ a : Act, Region.wanted oA (yielded ops a.tmps) = true)
    (hA : ∀ a : Act, (execOp a.eval oA).run P w = .ok (.value pA) w') (hL : ∀ listed a, L listed a → listed.getD m false = true ∧ wpAny P md ops Q' g listed a w') :
    ∀ (f : Nat) (listed : Array Bool) (a : Act), listed.size = ops.size → Any P md ops w w' m pA n L f listed a →
      ∀ W, (listed.getD m false = true → W = w') → (listed.getD m false = false → W = w) → wpAny P md ops Q' (f + g) listed a W
  | 0, listed, a, hz, h, W, h1, h2 => by
    rw [Nat.zero_add]
    obtain ⟨e, k⟩ := hL _ _ h
    rw [h1 e]; exact k
  | f + 1, listed, a, hz, h, W, h1, h2 => by
    rw [show f + 1 + g = (f + g) + 1 by omega]
    refine ⟨fun h0 => absurd h0 h.1, fun i hi => ?_⟩
    obtain ⟨-, o, v, ho, hy, H⟩ := h.2 i hi
    have hun := (mem_ready.1 hi).1
    have hz' : (listed.setIfInBounds i true).size = ops.size := by simpa using hz
    rcases hy with ⟨him, hv⟩ | ⟨hne, y1, y2⟩
    · have him' := him.symm
      subst him'
      have hW := h2 (getD_both hun)
      have hoA : oA = o := Option.some.inj (hm.symm.trans ho)
      subst hoA
      have hlt : m < listed.size := by rw [hz]; exact (Array.getElem?_eq_some_iff.1 hm).1
      rw [hv] at H
      rw [hW]
      have H' := any_sound hm hgA hA hL f _ _ hz' H w' (fun _ => rfl) (fun e => by rw [getD_set_same hlt] at e; cases e)
      unfold wpOp
      simp only [ho, hgA, if_true]
      refine .inl ?_
      unfold Oper.wp
      rw [hA]
      exact H'
    · have hyW : YieldsAt P ops W o v a := by
        cases e : listed.getD m false
        · rw [h2 e]; exact y1
        · rw [h1 e]; exact y2
      have e := getD_set_ne (listed := listed) (i := i) (j := m) false hne
      have H' := any_sound hm hgA hA hL f _ _ hz' H W (fun h => h1 (by rw [← e]; exact h)) (fun h => h2 (by rw [← e]; exact h))
      exact wpOp_of_stOp (K := fun a' => wpAny P md ops Q' (f + g) (listed.setIfInBounds i true) a' W) (fun _ h => h) (hyW.stOp ho H')

theorem wp_region_float {id : Nat} {Q : Exit → Act → World → Prop} {a : Act} {w w' : World} {l : List Oper} (n m : Nat) (pA : Value) (oA : Oper) (hm : P.follows .mixedOrders = true) (hB : floatB .any l.toArray n m = true)
    (hoA : l[m]? = some oA) (hgA : ∀ a : Act, Region.wanted oA (yielded l.toArray a.tmps) = true) (hA : ∀ a : Act, (execOp a.eval oA).run P { w with drawn := w.drawn + 1 } = .ok (.value pA) w')
    (h : Lex P l.toArray { w with drawn := w.drawn + 1 } w' m pA (fun a' => wpList P l.toArray Q (l.drop n) a' w') 0 (l.take n) a) : (Code.region id l.toArray true).wp P Q a w := by
  simp only [floatB, Bool.and_eq_true, decide_eq_true_eq] at hB
  obtain ⟨⟨⟨⟨⟨hsel, hn⟩, hmn⟩, hs⟩, hc⟩, hlex⟩ := hB
  have hn' : n < l.length := by simpa using hn
  have htl : (l.take n).length = n := by simp; omega
  have hdl : (l.drop n).length = l.toArray.size - n := by simp
  have inv0 : HeadInv .any l.toArray n (Array.replicate l.toArray.size false) :=
    ⟨by simp, fun j oj _ hl => (by rw [getD_replicate_false] at hl; cases hl), fun t _ ht => getD_in (by simpa using ht) (getD_replicate_false _ _)⟩
  have H := any_lex (md := .any) (g := l.toArray.size - n) hsel hs hc hn (l.take n) 0 _ a (fun j hj => by
    have hj' : j < n := by rw [htl] at hj; exact hj
    simp [hj']) (by simpa using htl) inv0 (by rw [htl]; exact hlex) h
  refine wp_region_any hm ?_
  have := any_sound (Q' := Q) (g := l.toArray.size - n) (oA := oA) (by simpa using hoA) hgA hA (fun listed a' hL => ⟨hL.1.2, by
    have := wpAny_of_seq (md := .any) (Q' := Q) (l.drop n) n listed a' w' (fun j => by simp [List.getElem?_drop]) (by rw [hdl]; exact hL.1.1) hL.2
    rwa [hdl] at this⟩) _ _ _ (by simp) H { w with drawn := w.drawn + 1 } (fun e => by rw [getD_replicate_false] at e; cases e) (fun _ => rfl)
  rw [htl, show n + (l.toArray.size - n) = l.toArray.size by omega] at this
  exact this

/-- a slot that no later operation fills keeps its value -/
theorem kept {W : World} {F : Act} (d : Nat) : ∀ (l : List Oper) (k : Nat) (a : Act), (∀ j, j < l.length → l[j]? = ops[k + j]?) → (∀ o ∈ l, o.dst ≠ some d) →
    wpStill P ops W (fun a' => a' = F) l a → F.tmps[d]? = a.tmps[d]?
  | [], _, a, _, _, h => by cases (show a = F from h); rfl
  | o :: l, k, a, hl, hd, h => by
    have h0 : ops[k]? = some o := by simpa using (hl 0 (by simp)).symm
    have hst : stOp P ops W k (wpStill P ops W (fun a' => a' = F) l) a := by unfold stOp; simp only [h0]; exact h
    obtain ⟨v, -, hK⟩ := yieldsAt_of_stOp h0 hst
    have := kept d l (k + 1) _ (fun j hj => by have := hl (j + 1) (by simp; omega); simpa [Nat.add_assoc, Nat.add_comm 1 j] using this) (fun o ho => hd o (by simp [ho])) hK
    rw [this]
    have hdo := hd o (by simp)
    unfold Act.put
    cases e : o.dst with
    | none => rfl
    | some x =>
      have hx : x ≠ d := fun h => hdo (by rw [e, h])
      simp [Array.getElem?_setIfInBounds_ne hx]

/-- every one fills a slot of its own -/
def ownB (s : Nat) : List Oper → Bool
  | [] => true
  | o :: l => (match o.dst with | some d => decide (d < s) && l.all (fun x => x.dst != some d) | none => false) && ownB s l

theorem lex_of_still {F : Act} {Lq : Act → Prop} {rest : List Oper} : ∀ (l : List Oper) (k : Nat) (a : Act), (∀ j, j < l.length → l[j]? = ops[k + j]?) → (k + l.length ≤ m ∨ m < k) → ownB a.tmps.size l = true →
    wpStill P ops w (fun a' => a' = F) l a → wpStill P ops w' (fun a' => a' = F) l a → Lex P ops w w' m pA Lq (k + l.length) rest F → Lex P ops w w' m pA Lq k (l ++ rest) a
  | [], k, a, _, _, _, h1, _, hr => by cases (show a = F from h1); simpa using hr
  | o :: l, k, a, hl, hm, ho, h1, h2, hr => by
    have h0 : ops[k]? = some o := by simpa using (hl 0 (by simp)).symm
    have hs1 : stOp P ops w k (wpStill P ops w (fun a' => a' = F) l) a := by unfold stOp; simp only [h0]; exact h1
    have hs2 : stOp P ops w' k (wpStill P ops w' (fun a' => a' = F) l) a := by unfold stOp; simp only [h0]; exact h2
    obtain ⟨v1, y1, k1⟩ := yieldsAt_of_stOp h0 hs1
    obtain ⟨v2, y2, k2⟩ := yieldsAt_of_stOp h0 hs2
    have hl' : ∀ j, j < l.length → l[j]? = ops[(k + 1) + j]? := fun j hj => by have := hl (j + 1) (by simp; omega); simpa [Nat.add_assoc, Nat.add_comm 1 j] using this
    simp only [ownB, Bool.and_eq_true] at ho
    obtain ⟨ho1, ho2⟩ := ho
    cases e : o.dst with
    | none => rw [e] at ho1; cases ho1
    | some d =>
      rw [e] at ho1 k1 k2
      simp only [Bool.and_eq_true, decide_eq_true_eq, List.all_eq_true] at ho1
      have hne : ∀ x ∈ l, x.dst ≠ some d := fun x hx => by simpa using ho1.2 x hx
      have f1 := kept d l (k + 1) _ hl' hne k1
      have f2 := kept d l (k + 1) _ hl' hne k2
      have g1 : (a.put (some d) v1).tmps[d]? = some v1 := by simp [Act.put, ho1.1]
      have g2 : (a.put (some d) v2).tmps[d]? = some v2 := by simp [Act.put, ho1.1]
      rw [g1] at f1
      rw [g2, f1] at f2
      obtain rfl := Option.some.inj f2
      have hlen : (o :: l).length = l.length + 1 := rfl
      refine ⟨v1, .inr ⟨by omega, y1, y2⟩, ?_⟩
      rw [e]
      refine lex_of_still l (k + 1) _ hl' (by omega) (by simpa [Act.put] using ho2) k1 k2 ?_
      rw [show k + 1 + l.length = k + (o :: l).length by simp only [List.length_cons]; omega]
      exact hr

/-- the maker last of the head; then the tail -/
theorem wp_region_float1 {id : Nat} {Q : Exit → Act → World → Prop} {a F : Act} {w w' : World} {l : List Oper} (m : Nat) (pA : Value) (oA : Oper) (hm : P.follows .mixedOrders = true) (hB : floatB .any l.toArray (m + 1) m = true)
    (hoA : l[m]? = some oA) (hgA : ∀ a : Act, Region.wanted oA (yielded l.toArray a.tmps) = true) (hA : ∀ a : Act, (execOp a.eval oA).run P { w with drawn := w.drawn + 1 } = .ok (.value pA) w')
    (hst : ∀ W : World, wpStill P l.toArray W (fun a' => a' = F) (l.take m) a) (hown : ownB a.tmps.size (l.take m) = true)
    (hfin : wpList P l.toArray Q (l.drop (m + 1)) (F.put oA.dst pA) w') : (Code.region id l.toArray true).wp P Q a w := by
  refine wp_region_float (m + 1) m pA oA hm hB hoA hgA hA ?_
  have hlt : m < l.length := (List.getElem?_eq_some_iff.1 hoA).1
  have htl : (l.take m).length = m := by simp; omega
  rw [List.take_add_one, hoA]
  refine lex_of_still (l.take m) 0 a (fun j hj => ?_) (by omega) hown (hst _) (hst _) ?_
  · have hj' : j < m := by rw [htl] at hj; exact hj
    simp [hj']
  · exact ⟨pA, .inl ⟨by omega, rfl⟩, hfin⟩

theorem wp_region_float2 {id : Nat} {Q : Exit → Act → World → Prop} {a : Act} {w w' : World} {l : List Oper} (m : Nat) (pA : Value) (oA : Oper) (hm : P.follows .mixedOrders = true) (hB : floatB .any l.toArray (m + 1) m = true)
    (hoA : l[m]? = some oA) (hgA : ∀ a : Act, Region.wanted oA (yielded l.toArray a.tmps) = true) (hA : ∀ a : Act, (execOp a.eval oA).run P { w with drawn := w.drawn + 1 } = .ok (.value pA) w')
    (hown : ownB a.tmps.size (l.take m) = true)
    (h : ∃ F, (∀ W : World, wpStill P l.toArray W (fun a' => a' = F) (l.take m) a) ∧ wpList P l.toArray Q (l.drop (m + 1)) (F.put oA.dst pA) w') : (Code.region id l.toArray true).wp P Q a w := by
  obtain ⟨F, h1, h2⟩ := h
  exact wp_region_float1 m pA oA hm hB hoA hgA hA h1 hown h2
end
end Go.FloatYtmjfdklpcmpjhaa
