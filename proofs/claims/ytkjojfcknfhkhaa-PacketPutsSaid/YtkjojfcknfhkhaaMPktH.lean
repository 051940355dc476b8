/- The program's Get of a packet: its contract. · The document's Get of a packet: its contract. -/
import Derived.Test.YtkjojfcknfhkhaaMPktG
import Derived.Test.YtkjojfcknfhkhaaOptR2
namespace Go.Proofs.Ytkjojfcknfhkhaa.Pkt
open Go.ChangeShapes Go.WideShapes Go.ChangeAt Go.RowKit
open Go.Proofs.Ytkjojfcknfhkhaa.Opt (O OptsAt Fit getErr getOpts)
open Go.Proofs.Ytkjojfcknfhkhaa.Head (fld acks nOf At)
set_option linter.unusedVariables false

theorem hone13 (k : Int) (l : Bool) (s d cc cv q ak sv co de : Int) (a : Option Addr) (n c : Nat) (da : ByteArray) : (#[.int .i64 k, .bool l, .int .i64 s, .int .i64 d, .int .i64 cc, .int .i64 cv, .int .i64 q, .int .i64 ak, .int .i64 sv, .int .i64 co, .int .i64 de, .slice a n c, .string da] : Array Value).all (·.oneCell') = true := by
  simp [Value.oneCell']

/-- what is known behind Get -/
def GetK (s : ByteArray) (f t : Int) (w : World) (e : Ending) (w' : World) : Prop :=
  ∃ a cap, e = .returned (.tuple #[.agg (rowK (get s f t).1 a cap), .int .i64 (get s f t).2]) ∧ OptsAt w' a (get s f t).1.opts ∧ Below w.heap.size w w'

/-- what is known of the pieces of bytes that begin right -/
structure Parts (s : ByteArray) (n : Nat) : Prop where
  kind : 0 ≤ (Head.get s).1.kind
  sum : (cutAt s : Int) - ((s.size : Int) - ((Head.get s).2.1.size : Int)) = n
  le : n ≤ (Head.get s).2.1.size
  room : o2 (Head.get s).1.kind (Head.get s).1.long ≤ (midOf s).size
  small : (midOf s).size ≤ 1020
  mid : midOf s = (Head.get s).2.1.extract 0 n
  data : dataOf s = (Head.get s).2.1.extract n (Head.get s).2.1.size
  less : (Head.get s).2.1.size ≤ s.size
theorem parts {s : ByteArray} (h : (Head.get s).2.2 = 0) (hn : ¬ s.size < cutAt s) : Parts s (cutAt s - (s.size - (Head.get s).2.1.size)) := by
  have b := begun h
  obtain ⟨m1, m2, m3, m4, m5⟩ := b.mid hn
  have h1 := b.size
  have h2 := b.head
  have h3 : (Head.get s).2.1.size ≤ s.size := by rw [b.rest]; exact ext_le _ _ _
  refine ⟨b.good.known.1, by omega, m4, m3, m5, by unfold midOf; rfl, ?_, h3⟩
  unfold dataOf
  have e := Head.from_next s (nOf (Head.get s).1.long) (cutAt s - (s.size - (Head.get s).2.1.size))
  rw [← b.rest] at e
  have e3 : nOf (Head.get s).1.long + (cutAt s - (s.size - (Head.get s).2.1.size)) = cutAt s := by omega
  rw [e3] at e
  exact e.symm

theorem ahead_kept {k : Int} {l : Bool} {r : ByteArray} (h : aheadErr k l r = 0) : keptN k l r = 0 := by
  unfold aheadErr at h
  split at h
  · cases h
  · rename_i h1; simpa using h1

theorem get_ok (s : ByteArray) (f t : Int) (h1 : ¬ 700 < s.size) (h2 : (Head.get s).2.2 = 0) (h3 : ¬ s.size < cutAt s) (h4 : right s f t = true) :
    get s f t = if aheadErr (Head.get s).1.kind (Head.get s).1.long (midOf s) ≠ 0 then (K.none, aheadErr (Head.get s).1.kind (Head.get s).1.long (midOf s)) else if held (readOf s (getOpts (optsOf s))) ≠ 0 then (K.none, held (readOf s (getOpts (optsOf s)))) else (readOf s (getOpts (optsOf s)), 0) := by
  have e : aheadErr (Head.get s).1.kind (Head.get s).1.long (midOf s) = if keptN (Head.get s).1.kind (Head.get s).1.long (midOf s) ≠ 0 then 4 else getErr (optsOf s) := by unfold aheadErr optsOf; rfl
  unfold get
  rw [if_neg h1, if_neg (by simp [h2]), if_neg h3, if_neg (by simp [h4]), e, heldN_held]
  generalize keptN (Head.get s).1.kind (Head.get s).1.long (midOf s) = kn
  generalize getErr (optsOf s) = ge
  by_cases hk : kn = 0
  · rw [if_neg (by simp [hk]), if_neg (show ¬ (kn ≠ 0) by simp [hk])]
  · rw [if_pos hk, if_pos hk, if_pos (by decide)]

set_option maxRecDepth 100000 in
set_option maxHeartbeats 4000000 in
theorem PGet_any (s : ByteArray) (hs : s.size ≤ 3000) (f t : Int) (w : World) :
    Calls Try.prog 14 #[.string s, .agg #[.int .i64 f, .int .i64 t]] w (GetK s f t w) := by
  have G1 := fun (h : 700 < s.size) => (show get s f t = (K.none, 11) from if_pos h)
  have G2 := fun (h1 : ¬ 700 < s.size) (h2 : (Head.get s).2.2 ≠ 0) => (show get s f t = (K.none, (Head.get s).2.2) by unfold get; rw [if_neg h1, if_pos h2])
  have G3 := fun (h1 : ¬ 700 < s.size) (h2 : (Head.get s).2.2 = 0) (h3 : s.size < cutAt s) => (show get s f t = (K.none, 1) by unfold get; rw [if_neg h1, if_neg (by simp [h2]), if_pos h3])
  have G4 := fun (h1 : ¬ 700 < s.size) (h2 : (Head.get s).2.2 = 0) (h3 : ¬ s.size < cutAt s) (h4 : right s f t = false) => (show get s f t = (K.none, 5) by unfold get; rw [if_neg h1, if_neg (by simp [h2]), if_neg h3, if_pos h4])
  have G5 := fun h1 h2 h3 h4 => get_ok s f t h1 h2 h3 h4
  have PA := fun h1 h2 => @parts s h1 h2
  have CG := Lib.hid (fun w => Head.Get_any s (by omega) w)
  have CR := Lib.hid (fun w => Right_any s hs f t w)
  obtain ⟨hm, hm2⟩ := cutAt_words s
  have hgw := get_words s
  unfold Head.GetEnd at CG
  unfold GetK
  generalize get s f t = R at *
  generalize right s f t = rt at *
  -- the blocks of the path and of the result
  have hb1 := ((Below.refl w.heap.size w).alloc (Nat.le_refl _) (.cells #[.int .i64 f, .int .i64 t] 26)).alloc (by simp) (.cells #[.int .i64 0, .bool false, .int .i64 0, .int .i64 0, .int .i64 0, .int .i64 0, .int .i64 0, .int .i64 0, .int .i64 0, .int .i64 0, .int .i64 0, .slice none 0 0, .string ⟨#[]⟩] 24)
  obtain ⟨W, hW⟩ : ∃ W, (w.alloc (.cells #[.int .i64 f, .int .i64 t] 26)).alloc (.cells #[.int .i64 0, .bool false, .int .i64 0, .int .i64 0, .int .i64 0, .int .i64 0, .int .i64 0, .int .i64 0, .int .i64 0, .int .i64 0, .int .i64 0, .slice none 0 0, .string ⟨#[]⟩] 24) = W := ⟨_, rfl⟩
  have hsz : W.heap.size = w.heap.size + 2 := by rw [← hW]; simp
  have hA : W.heap[w.heap.size]? = some (.cells #[.int .i64 f, .int .i64 t] 26 (0, 0)) := by
    rw [← hW]
    exact (Below.heap_alloc _ _ _ (by simp)).trans (heap_alloc_new w _)
  have hZ : BoxK W (w.heap.size + 1) K.none none 0 := by
    rw [← hW]
    have := BoxK.new (w.alloc (.cells #[.int .i64 f, .int .i64 t] 26)) K.none none 0
    rwa [show (w.alloc (.cells #[.int .i64 f, .int .i64 t] 26)).heap.size = w.heap.size + 1 by simp] at this
  have HB := Lib.hid (show Below w.heap.size w W by rw [← hW]; exact hb1)
  have KP := Lib.hid (show ∀ W', Below W.heap.size W W' → W'.heap[w.heap.size]? = some (.cells #[.int .i64 f, .int .i64 t] 26 (0, 0)) ∧ BoxK W' (w.heap.size + 1) K.none none 0 from fun W' h' => ⟨(h'.block _ (by rw [hsz]; omega)).trans hA, hZ.below h' (by rw [hsz]; omega)⟩)
  have FIN := Lib.hid (show ∀ W', Below W.heap.size W W' → ∀ cs, Below w.heap.size w (W'.setRow (w.heap.size + 1) cs) from fun W' h' cs => Head.below_row (HB.out.trans (h'.mono HB.out.size)) _ _ (Nat.le_succ _))
  clear hb1 hA
  go_enter Try.func14, Try.ntmps14
  by_cases h700 : 700 < s.size
  case pos =>
    have HG := Lib.hid (G1 h700)
    have h700' : (700 : Int) < (s.size : Int) := by omega
    go_wp2_with (refine wpList_store_row rfl 24 _ _ rfl (w.heap.size + 1) _ rfl rfl 24 _ hZ (hi13 _ _ _ _ _ _ _ _ _ _ _ _ _) rfl (hone13 _ _ _ _ _ _ _ _ _ _ _ _ _ _ _) ?_)
    refine bodyPost_ret (Head.results_row1 Try.results14 _ _ (w.heap.size + 1) 24 _ (0, 0) _ rfl (setRow_heap _ _ _ _ _ _ hZ) Try.underlying24 rfl (hi13 _ _ _ _ _ _ _ _ _ _ _ _ _)) rfl ?_
    exact ⟨none, 0, by rw [HG.out]; rfl, by rw [HG.out]; exact .inl rfl, FIN.out _ (Below.refl _ _) _⟩
  have h700' : ¬ (700 : Int) < (s.size : Int) := by omega
  clear G1
  go_wp2_with fail
  refine (CG.out _).mono ?_
  rintro e w1 ⟨rfl, h1⟩
  have n1 := Head.Box9.new w1 (Head.get s).1
  have hx := (Below.refl w1.heap.size w1).alloc (Nat.le_refl _) (.cells (Head.rowOf (Head.get s).1) 43)
  obtain ⟨V, hV⟩ : ∃ V, w1.alloc (.cells (Head.rowOf (Head.get s).1) 43) = V := ⟨_, rfl⟩
  have HV := Lib.hid (show Below W.heap.size W V by rw [← hV]; exact h1.trans (hx.mono h1.size))
  have nV : Head.Box9 V w1.heap.size (Head.get s).1 := by rw [← hV]; exact n1
  have hw1 : W.heap.size ≤ w1.heap.size := h1.size
  clear h1 n1 hx CG
  have zV := (KP.out _ HV.out).2
  have aV := (KP.out _ HV.out).1
  -- names for the pieces
  by_cases her : (Head.get s).2.2 = 0
  case neg =>
    have HG := Lib.hid (G2 h700 her)
    generalize (Head.get s).2.2 = er at *
    have hcb : (er != 0) = true := by simpa using her
    go_wp2_with (refine wpList_store_row rfl 24 _ _ rfl (w.heap.size + 1) _ rfl rfl 24 _ zV (hi13 _ _ _ _ _ _ _ _ _ _ _ _ _) rfl (hone13 _ _ _ _ _ _ _ _ _ _ _ _ _ _ _) ?_)
    refine bodyPost_ret (Head.results_row1 Try.results14 _ _ (w.heap.size + 1) 24 _ (0, 0) _ rfl (setRow_heap _ _ _ _ _ _ zV) Try.underlying24 rfl (hi13 _ _ _ _ _ _ _ _ _ _ _ _ _)) rfl ?_
    exact ⟨none, 0, by rw [HG.out]; rfl, by rw [HG.out]; exact .inl rfl, FIN.out _ (HV.out) _⟩
  have hcb : ((Head.get s).2.2 != 0) = false := by rw [her]; rfl
  obtain ⟨m, hmd⟩ : ∃ m, cutAt s = m := ⟨_, rfl⟩
  have hwm : IntKind.i64.wrap (4 * (Head.get s).1.words) = m := by rw [IntKind.wrap_i64, ← hmd, ← hm]; omega
  obtain ⟨c0, c1, c2, c3, c4, c5, c6, c7, c8⟩ := nV.cell
  by_cases hlt : s.size < cutAt s
  case pos =>
    have HG := Lib.hid (G3 h700 her hlt)
    rw [hmd] at hlt
    have hlt' : (s.size : Int) < (m : Int) := by omega
    go_wp2_with (refine wpList_store_row rfl 24 _ _ rfl (w.heap.size + 1) _ rfl rfl 24 _ zV (hi13 _ _ _ _ _ _ _ _ _ _ _ _ _) rfl (hone13 _ _ _ _ _ _ _ _ _ _ _ _ _ _ _) ?_)
    refine bodyPost_ret (Head.results_row1 Try.results14 _ _ (w.heap.size + 1) 24 _ (0, 0) _ rfl (setRow_heap _ _ _ _ _ _ zV) Try.underlying24 rfl (hi13 _ _ _ _ _ _ _ _ _ _ _ _ _)) rfl ?_
    exact ⟨none, 0, by rw [HG.out]; rfl, by rw [HG.out]; exact .inl rfl, FIN.out _ (HV.out) _⟩
  have P := PA her hlt
  have G4' := G4 h700 her hlt
  have G5' := G5 h700 her hlt
  clear G2 G3 G4 G5 PA
  have hlt' : ¬ (s.size : Int) < (m : Int) := by omega
  go_wp2_with (refine wpList_load_row rfl 26 _ rfl w.heap.size rfl 26 _ _ _ aV Try.underlying26 rfl (hi2 _ _) ?_)
  refine (CR.out _).mono ?_
  rintro e w2 ⟨rfl, h2⟩
  have H2 := Lib.hid (HV.out.trans (h2.mono HV.out.size))
  have n2 := nV.below h2 nV.lt
  have z2 := (KP.out _ H2.out).2
  clear c0 c1 c2 c3 c4 c5 c6 c7 c8 nV h2 HV zV aV hV CR
  cases rt
  case false =>
    have HG := Lib.hid (G4' rfl)
    go_wp2_with (refine wpList_store_row rfl 24 _ _ rfl (w.heap.size + 1) _ rfl rfl 24 _ z2 (hi13 _ _ _ _ _ _ _ _ _ _ _ _ _) rfl (hone13 _ _ _ _ _ _ _ _ _ _ _ _ _ _ _) ?_)
    refine bodyPost_ret (Head.results_row1 Try.results14 _ _ (w.heap.size + 1) 24 _ (0, 0) _ rfl (setRow_heap _ _ _ _ _ _ z2) Try.underlying24 rfl (hi13 _ _ _ _ _ _ _ _ _ _ _ _ _)) rfl ?_
    exact ⟨none, 0, by rw [HG.out]; rfl, by rw [HG.out]; exact .inl rfl, FIN.out _ (H2.out) _⟩
  have HG5 := G5' rfl
  clear G4' G5'
  obtain ⟨n, hn⟩ : ∃ n, cutAt s - (s.size - (Head.get s).2.1.size) = n := ⟨_, rfl⟩
  rw [hn] at P
  have hP : readOf s (getOpts (optsOf s)) = ⟨(Head.get s).1.kind, (Head.get s).1.long, (Head.get s).1.src, (Head.get s).1.dst, (Head.get s).1.cc, (Head.get s).1.cover, (Head.get s).1.seq, ackN (Head.get s).1.kind (Head.get s).1.long (midOf s), servN (Head.get s).1.kind (Head.get s).1.long (midOf s), codeN (Head.get s).1.kind (Head.get s).1.long (midOf s), detN (Head.get s).1.kind (Head.get s).1.long (midOf s), getOpts ((midOf s).extract (o2 (Head.get s).1.kind (Head.get s).1.long) (midOf s).size), dataOf s⟩ := rfl
  have p1 := P.kind; have p2 := P.sum; have p3 := P.le; have p4 := P.room; have p5 := P.small; have p6 := P.mid; have p7 := P.data; have p8 := P.less
  rw [hmd] at p2
  clear P hn hlt her hm
  generalize readOf s (getOpts (optsOf s)) = PK at *
  generalize midOf s = mid at *
  generalize dataOf s = dat at *
  generalize (Head.get s).2.2 = er at *
  generalize (Head.get s).2.1 = re at *
  generalize (Head.get s).1 = g at *
  subst p6 p7
  have q1 : IntKind.i64.wrap ((s.size : Int) - (re.size : Int)) = (s.size : Int) - (re.size : Int) := by rw [IntKind.wrap_i64]; omega
  have q2 : IntKind.i64.wrap ((m : Int) - ((s.size : Int) - (re.size : Int))) = n := by rw [IntKind.wrap_i64, p2]; omega
  have q3 : (0 : Int) ≤ (n : Int) := by omega
  have q4 : (n : Int) ≤ (re.size : Int) := by omega
  have q5 : IntKind.i64.wrap (n : Int) = n := by rw [IntKind.wrap_i64]; omega
  obtain ⟨c0, c1, c2, c3, c4, c5, c6, c7, c8⟩ := n2.cell
  have z3 := BoxK.new w2 K.none none 0
  have h3 := (Below.refl w2.heap.size w2).alloc (Nat.le_refl _) (.cells #[.int .i64 0, .bool false, .int .i64 0, .int .i64 0, .int .i64 0, .int .i64 0, .int .i64 0, .int .i64 0, .int .i64 0, .int .i64 0, .int .i64 0, .slice none 0 0, .string ⟨#[]⟩] 24)
  obtain ⟨Y, hY⟩ : ∃ Y, (w2.alloc (.cells #[.int .i64 0, .bool false, .int .i64 0, .int .i64 0, .int .i64 0, .int .i64 0, .int .i64 0, .int .i64 0, .int .i64 0, .int .i64 0, .int .i64 0, .slice none 0 0, .string ⟨#[]⟩] 24)).setRow w2.heap.size #[.int .i64 g.kind, .bool g.long, .int .i64 g.src, .int .i64 g.dst, .int .i64 g.cc, .int .i64 g.cover, .int .i64 g.seq, .int .i64 0, .int .i64 0, .int .i64 0, .int .i64 0, .slice none 0 0, .string ⟨#[]⟩] = Y := ⟨_, rfl⟩
  have H3 := Lib.hid (show Below W.heap.size W Y by rw [← hY]; exact Head.below_row (H2.out.trans (h3.mono H2.out.size)) _ _ H2.out.size)
  have bY : BoxK Y w2.heap.size ⟨g.kind, g.long, g.src, g.dst, g.cc, g.cover, g.seq, 0, 0, 0, 0, [], ⟨#[]⟩⟩ none 0 := by rw [← hY]; exact setRow_heap _ _ _ _ _ _ z3
  have hw2 : W.heap.size ≤ w2.heap.size := H2.out.size
  have c12 := bY.cell.2.2.2.2.2.2.2.2.2.2.2.2
  have f12 := bY.free 12
  have bY2 := bY.set12 (re.extract n re.size)
  have H4 := Lib.hid (H3.out.setCell (p := ⟨w2.heap.size, 12, none⟩) hw2 (.string (re.extract n re.size)))
  clear h3 n2 bY
  go_wp2_with (refine wpList_store_row rfl 24 _ _ rfl w2.heap.size _ rfl rfl 24 _ z3 (hi13 _ _ _ _ _ _ _ _ _ _ _ _ _) rfl (hone13 _ _ _ _ _ _ _ _ _ _ _ _ _ _ _) ?_)
  refine (readAhead_any w2.heap.size _ (re.extract 0 n) none 0 _ p1 ⟨rfl, rfl, rfl, rfl⟩ (by omega) p4 bY2).mono ?_
  rintro e w3 ⟨rfl, t3, k3⟩
  have H5 := Lib.hid (H4.out.trans (t3.toBelow hw2 H4.out.size))
  have z5 := (KP.out _ H5.out).2
  clear c0 c1 c2 c3 c4 c5 c6 c7 c8 c12 f12 z3 z2 bY2 H4 H3 hY t3 q1 q2 q3 q4 q5
  dsimp only at k3 ⊢
  obtain ⟨E, hE⟩ : ∃ E, aheadErr g.kind g.long (re.extract 0 n) = E := ⟨_, rfl⟩
  rw [hE] at HG5 ⊢
  by_cases hE0 : E = 0
  case neg =>
    have HG := Lib.hid (HG5.trans (if_pos hE0))
    have hcb9 : (E != 0) = true := by simpa using hE0
    clear HG5 hE k3 hP
    go_wp2_with (refine wpList_store_row rfl 24 _ _ rfl (w.heap.size + 1) _ rfl rfl 24 _ z5 (hi13 _ _ _ _ _ _ _ _ _ _ _ _ _) rfl (hone13 _ _ _ _ _ _ _ _ _ _ _ _ _ _ _) ?_)
    refine bodyPost_ret (Head.results_row1 Try.results14 _ _ (w.heap.size + 1) 24 _ (0, 0) _ rfl (setRow_heap _ _ _ _ _ _ z5) Try.underlying24 rfl (hi13 _ _ _ _ _ _ _ _ _ _ _ _ _)) rfl ?_
    exact ⟨none, 0, by rw [HG.out]; rfl, by rw [HG.out]; exact .inl rfl, FIN.out _ (H5.out) _⟩
  have HG6 := Lib.hid (HG5.trans (if_neg (fun h => h hE0)))
  obtain ⟨a4, cap4, b4, o4⟩ := k3 (ahead_kept (hE.trans hE0))
  have b4' : BoxK w3 w2.heap.size PK a4 cap4 := by rw [hP]; exact b4
  have o4' : OptsAt w3 a4 PK.opts := by rw [hP]; exact o4
  have hkp : 0 ≤ PK.kind := by rw [hP]; exact p1
  subst hE0
  clear HG5 hE k3 hP b4 o4
  have hcb9 : ((0 : Int) != 0) = false := rfl
  go_wp2_with (refine wpList_load_row rfl 24 _ rfl w2.heap.size rfl 24 _ _ _ b4' Try.underlying24 rfl (hi13 _ _ _ _ _ _ _ _ _ _ _ _ _) ?_)
  refine (checkHeld_any PK hkp a4 cap4 _).mono ?_
  rintro e w6 ⟨rfl, h6⟩
  have H6 := Lib.hid (H5.out.trans (h6.mono H5.out.size))
  have z6 := (KP.out _ H6.out).2
  have b6 := b4'.below h6 b4'.lt
  have o6 := o4'.below h6
  clear b4' o4' h6 z5 H5
  obtain ⟨hp, hhp⟩ : ∃ hp, held PK = hp := ⟨_, rfl⟩
  rw [hhp] at HG6 ⊢
  by_cases hp0 : hp = 0
  case neg =>
    have HG := Lib.hid (HG6.out.trans (if_pos hp0))
    have hcb8 : (hp != 0) = true := by simpa using hp0
    clear HG6
    go_wp2_with (refine wpList_store_row rfl 24 _ _ rfl (w.heap.size + 1) _ rfl rfl 24 _ z6 (hi13 _ _ _ _ _ _ _ _ _ _ _ _ _) rfl (hone13 _ _ _ _ _ _ _ _ _ _ _ _ _ _ _) ?_)
    refine bodyPost_ret (Head.results_row1 Try.results14 _ _ (w.heap.size + 1) 24 _ (0, 0) _ rfl (setRow_heap _ _ _ _ _ _ z6) Try.underlying24 rfl (hi13 _ _ _ _ _ _ _ _ _ _ _ _ _)) rfl ?_
    exact ⟨none, 0, by rw [HG.out]; rfl, by rw [HG.out]; exact .inl rfl, FIN.out _ (H6.out) _⟩
  subst hp0
  have HG := Lib.hid (HG6.out.trans (if_neg (fun h => h rfl)))
  clear HG6
  go_wp2_with (first
    | (refine wpList_load_row rfl 24 _ rfl w2.heap.size rfl 24 _ _ _ b6 Try.underlying24 rfl (hi13 _ _ _ _ _ _ _ _ _ _ _ _ _) ?_)
    | (refine wpList_store_row rfl 24 _ _ rfl (w.heap.size + 1) _ rfl rfl 24 _ z6 (hi13 _ _ _ _ _ _ _ _ _ _ _ _ _) rfl (hone13 _ _ _ _ _ _ _ _ _ _ _ _ _ _ _) ?_))
  refine bodyPost_ret (Head.results_row1 Try.results14 _ _ (w.heap.size + 1) 24 _ (0, 0) _ rfl (setRow_heap _ _ _ _ _ _ z6) Try.underlying24 rfl (hi13 _ _ _ _ _ _ _ _ _ _ _ _ _)) rfl ?_
  exact ⟨a4, cap4, by rw [HG.out]; rfl, by rw [HG.out]; exact opts_row o6 z6 _, FIN.out _ H6.out _⟩
end Go.Proofs.Ytkjojfcknfhkhaa.Pkt

namespace Go.Proofs.Ytkjojfcknfhkhaa.Pkt
open Go.ChangeShapes Go.WideShapes Go.ChangeAt Go.RowKit
open Go.Proofs.Ytkjojfcknfhkhaa.Opt (O OptsAt Fit getErr getOpts)
open Go.Proofs.Ytkjojfcknfhkhaa.Head (fld acks nOf At refAcks_any)
open Go.Proofs.Ytkjojfcknfhkhaa.Oct (RefAt)
set_option linter.unusedVariables false

theorem ref_new (w : World) (r : ByteArray) (t : TypeId) : RefAt (w.alloc (.cells #[.string r, .int .i64 0, .int .i64 0] t)) w.heap.size r 0 0 := by
  have hz : ∀ j, (w.alloc (.cells #[.string r, .int .i64 0, .int .i64 0] t)).frozen? ⟨w.heap.size, j, none⟩ = false := fun j => by
    have := World.frozen?_alloc_mark w #[.string r, .int .i64 0, .int .i64 0] t 0 0 j
    rw [this]; simp
  have hc : ∀ j, (w.alloc (.cells #[.string r, .int .i64 0, .int .i64 0] t)).cell? ⟨w.heap.size, j, none⟩ = #[Value.string r, .int .i64 0, .int .i64 0][j]? := fun j => World.cell?_alloc_mark w _ t (0, 0) j
  exact ⟨Nat.zero_le _, hc 0, hc 1, hc 2, hz 1, hz 2⟩

theorem optsOf_mid (s : ByteArray) : optsOf s = (midOf s).extract (o2 (Head.get s).1.kind (Head.get s).1.long) (midOf s).size := rfl
theorem get_ok2 (s : ByteArray) (f t : Int) (h1 : ¬ 700 < s.size) (h2 : (Head.get s).2.2 = 0) (h3 : ¬ s.size < cutAt s) (h4 : right s f t = true) :
    get s f t = if keptN (Head.get s).1.kind (Head.get s).1.long (midOf s) ≠ 0 then (K.none, 4) else if getErr (optsOf s) ≠ 0 then (K.none, getErr (optsOf s)) else if heldN (readOf s (getOpts (optsOf s))) ≠ 0 then (K.none, heldN (readOf s (getOpts (optsOf s)))) else (readOf s (getOpts (optsOf s)), 0) := by
  unfold get
  rw [if_neg h1, if_neg (by simp [h2]), if_neg h3, if_neg (by simp [h4])]

set_option maxRecDepth 100000 in
set_option maxHeartbeats 40000000 in
theorem refGet10_any (s : ByteArray) (hs : s.size ≤ 3000) (f t : Int) (w : World) :
    Calls Try.prog 15 #[.string s, .agg #[.int .i64 f, .int .i64 t]] w (GetK s f t w) := by
  have G1 := fun (h : 700 < s.size) => (show get s f t = (K.none, 11) from if_pos h)
  have G2 := fun (h1 : ¬ 700 < s.size) (h2 : (Head.get s).2.2 ≠ 0) => (show get s f t = (K.none, (Head.get s).2.2) by unfold get; rw [if_neg h1, if_pos h2])
  have G3 := fun (h1 : ¬ 700 < s.size) (h2 : (Head.get s).2.2 = 0) (h3 : s.size < cutAt s) => (show get s f t = (K.none, 1) by unfold get; rw [if_neg h1, if_neg (by simp [h2]), if_pos h3])
  have G4 := fun (h1 : ¬ 700 < s.size) (h2 : (Head.get s).2.2 = 0) (h3 : ¬ s.size < cutAt s) (h4 : right s f t = false) => (show get s f t = (K.none, 5) by unfold get; rw [if_neg h1, if_neg (by simp [h2]), if_neg h3, if_pos h4])
  have G5 := fun h1 h2 h3 h4 => get_ok2 s f t h1 h2 h3 h4
  have PA := fun h1 h2 => @parts s h1 h2
  have CG := Lib.hid (fun w => Head.refGet_any s (by omega) w)
  have CR := Lib.hid (fun w => refRight_any s hs f t w)
  obtain ⟨hm, hm2⟩ := cutAt_words s
  have hgw := get_words s
  unfold Head.GetEnd at CG
  unfold GetK
  generalize get s f t = R at *
  generalize right s f t = rt at *
  -- the blocks of the path, of the result, and of the packet that is none
  have hb0 := ((Below.refl w.heap.size w).alloc (Nat.le_refl _) (.cells #[.int .i64 f, .int .i64 t] 26)).alloc (by simp) (.cells #[.int .i64 0, .bool false, .int .i64 0, .int .i64 0, .int .i64 0, .int .i64 0, .int .i64 0, .int .i64 0, .int .i64 0, .int .i64 0, .int .i64 0, .slice none 0 0, .string ⟨#[]⟩] 24)
  obtain ⟨W0, hW0⟩ : ∃ W0, (w.alloc (.cells #[.int .i64 f, .int .i64 t] 26)).alloc (.cells #[.int .i64 0, .bool false, .int .i64 0, .int .i64 0, .int .i64 0, .int .i64 0, .int .i64 0, .int .i64 0, .int .i64 0, .int .i64 0, .int .i64 0, .slice none 0 0, .string ⟨#[]⟩] 24) = W0 := ⟨_, rfl⟩
  have hsz0 : W0.heap.size = w.heap.size + 2 := by rw [← hW0]; simp
  have hA0 : W0.heap[w.heap.size]? = some (.cells #[.int .i64 f, .int .i64 t] 26 (0, 0)) := by
    rw [← hW0]
    exact (Below.heap_alloc _ _ _ (by simp)).trans (heap_alloc_new w _)
  have hZ0 : BoxK W0 (w.heap.size + 1) K.none none 0 := by
    rw [← hW0]
    have := BoxK.new (w.alloc (.cells #[.int .i64 f, .int .i64 t] 26)) K.none none 0
    rwa [show (w.alloc (.cells #[.int .i64 f, .int .i64 t] 26)).heap.size = w.heap.size + 1 by simp] at this
  have hb0' : Below w.heap.size w W0 := by rw [← hW0]; exact hb0
  have zN := BoxK.new W0 K.none none 0
  have hx0 := (Below.refl W0.heap.size W0).alloc (Nat.le_refl _) (.cells #[.int .i64 0, .bool false, .int .i64 0, .int .i64 0, .int .i64 0, .int .i64 0, .int .i64 0, .int .i64 0, .int .i64 0, .int .i64 0, .int .i64 0, .slice none 0 0, .string ⟨#[]⟩] 24)
  obtain ⟨W, hW⟩ : ∃ W, (W0.alloc (.cells #[.int .i64 0, .bool false, .int .i64 0, .int .i64 0, .int .i64 0, .int .i64 0, .int .i64 0, .int .i64 0, .int .i64 0, .int .i64 0, .int .i64 0, .slice none 0 0, .string ⟨#[]⟩] 24)).setRow W0.heap.size #[.int .i64 0, .bool false, .int .i64 0, .int .i64 0, .int .i64 0, .int .i64 0, .int .i64 0, .int .i64 0, .int .i64 0, .int .i64 0, .int .i64 0, .slice none 0 0, .string ⟨#[]⟩] = W := ⟨_, rfl⟩
  have hx1 : Below W0.heap.size W0 W := by rw [← hW]; exact Head.below_row hx0 _ _ (Nat.le_refl _)
  have hN : BoxK W (w.heap.size + 2) K.none none 0 := by
    rw [← hW, ← hsz0]; exact setRow_heap _ _ _ _ _ _ zN
  have hA : W.heap[w.heap.size]? = some (.cells #[.int .i64 f, .int .i64 t] 26 (0, 0)) := (hx1.block _ (by rw [hsz0]; omega)).trans hA0
  have hZ : BoxK W (w.heap.size + 1) K.none none 0 := hZ0.below hx1 (by rw [hsz0]; omega)
  have HB := Lib.hid (show Below w.heap.size w W from hb0'.trans (hx1.mono hb0'.size))
  have hsz : w.heap.size + 2 < W.heap.size := hN.lt
  have KP := Lib.hid (show ∀ W', Below W.heap.size W W' → W'.heap[w.heap.size]? = some (.cells #[.int .i64 f, .int .i64 t] 26 (0, 0)) ∧ BoxK W' (w.heap.size + 1) K.none none 0 ∧ BoxK W' (w.heap.size + 2) K.none none 0 from fun W' h' => ⟨(h'.block _ (by omega)).trans hA, hZ.below h' (by omega), hN.below h' hsz⟩)
  have FIN := Lib.hid (show ∀ W', Below W.heap.size W W' → ∀ cs, Below w.heap.size w (W'.setRow (w.heap.size + 1) cs) from fun W' h' cs => Head.below_row (HB.out.trans (h'.mono HB.out.size)) _ _ (Nat.le_succ _))
  have hzn : BoxK (W0.alloc (.cells #[.int .i64 0, .bool false, .int .i64 0, .int .i64 0, .int .i64 0, .int .i64 0, .int .i64 0, .int .i64 0, .int .i64 0, .int .i64 0, .int .i64 0, .slice none 0 0, .string ⟨#[]⟩] 24)) (w.heap.size + 2) K.none none 0 := by rw [← hsz0]; exact zN
  rw [hsz0] at hW
  clear hb0 hb0' hx0 hx1 hA0 hZ0 hA zN
  go_enter Try.func15, Try.ntmps15
  by_cases h700 : 700 < s.size
  case pos =>
    have HG := Lib.hid (G1 h700)
    have h700' : (700 : Int) < (s.size : Int) := by omega
    go_wp2_with (first | (refine wpList_store_row rfl 24 _ _ rfl (w.heap.size + 2) _ rfl rfl 24 _ hzn (hi13 _ _ _ _ _ _ _ _ _ _ _ _ _) rfl (hone13 _ _ _ _ _ _ _ _ _ _ _ _ _ _ _) ?_) | (refine wpList_load_row rfl 24 _ rfl (w.heap.size + 2) rfl 24 _ _ _ hN Try.underlying24 rfl (hi13 _ _ _ _ _ _ _ _ _ _ _ _ _) ?_) | (refine wpList_store_row rfl 24 _ _ rfl (w.heap.size + 1) _ rfl rfl 24 _ hZ (hi13 _ _ _ _ _ _ _ _ _ _ _ _ _) rfl (hone13 _ _ _ _ _ _ _ _ _ _ _ _ _ _ _) ?_))
    refine bodyPost_ret (Head.results_row1 Try.results15 _ _ (w.heap.size + 1) 24 _ (0, 0) _ rfl (setRow_heap _ _ _ _ _ _ hZ) Try.underlying24 rfl (hi13 _ _ _ _ _ _ _ _ _ _ _ _ _)) rfl ?_
    exact ⟨none, 0, by rw [HG.out]; rfl, by rw [HG.out]; exact .inl rfl, FIN.out _ (Below.refl _ _) _⟩
  have h700' : ¬ (700 : Int) < (s.size : Int) := by omega
  clear G1
  go_wp2_with (first | (refine wpList_store_row rfl 24 _ _ rfl (w.heap.size + 2) _ rfl rfl 24 _ hzn (hi13 _ _ _ _ _ _ _ _ _ _ _ _ _) rfl (hone13 _ _ _ _ _ _ _ _ _ _ _ _ _ _ _) ?_))
  refine (CG.out _).mono ?_
  rintro e w1 ⟨rfl, h1⟩
  have n1 := Head.Box9.new w1 (Head.get s).1
  have hx := (Below.refl w1.heap.size w1).alloc (Nat.le_refl _) (.cells (Head.rowOf (Head.get s).1) 43)
  obtain ⟨V, hV⟩ : ∃ V, w1.alloc (.cells (Head.rowOf (Head.get s).1) 43) = V := ⟨_, rfl⟩
  have HV := Lib.hid (show Below W.heap.size W V by rw [← hV]; exact h1.trans (hx.mono h1.size))
  have nV : Head.Box9 V w1.heap.size (Head.get s).1 := by rw [← hV]; exact n1
  have hw1 : W.heap.size ≤ w1.heap.size := h1.size
  clear h1 n1 hx CG hzn hN hZ
  obtain ⟨aV, zV, nN⟩ := KP.out _ HV.out
  by_cases her : (Head.get s).2.2 = 0
  case neg =>
    have HG := Lib.hid (G2 h700 her)
    generalize (Head.get s).2.2 = er at *
    have hcb : (er != 0) = true := by simpa using her
    go_wp2_with (first | (refine wpList_load_row rfl 24 _ rfl (w.heap.size + 2) rfl 24 _ _ _ nN Try.underlying24 rfl (hi13 _ _ _ _ _ _ _ _ _ _ _ _ _) ?_) | (refine wpList_store_row rfl 24 _ _ rfl (w.heap.size + 1) _ rfl rfl 24 _ zV (hi13 _ _ _ _ _ _ _ _ _ _ _ _ _) rfl (hone13 _ _ _ _ _ _ _ _ _ _ _ _ _ _ _) ?_))
    refine bodyPost_ret (Head.results_row1 Try.results15 _ _ (w.heap.size + 1) 24 _ (0, 0) _ rfl (setRow_heap _ _ _ _ _ _ zV) Try.underlying24 rfl (hi13 _ _ _ _ _ _ _ _ _ _ _ _ _)) rfl ?_
    exact ⟨none, 0, by rw [HG.out]; rfl, by rw [HG.out]; exact .inl rfl, FIN.out _ (HV.out) _⟩
  have hcb : ((Head.get s).2.2 != 0) = false := by rw [her]; rfl
  obtain ⟨m, hmd⟩ : ∃ m, cutAt s = m := ⟨_, rfl⟩
  have hwm : IntKind.i64.wrap (4 * (Head.get s).1.words) = m := by rw [IntKind.wrap_i64, ← hmd, ← hm]; omega
  obtain ⟨c0, c1, c2, c3, c4, c5, c6, c7, c8⟩ := nV.cell
  by_cases hlt : s.size < cutAt s
  case pos =>
    have HG := Lib.hid (G3 h700 her hlt)
    rw [hmd] at hlt
    have hlt' : (s.size : Int) < (m : Int) := by omega
    go_wp2_with (first | (refine wpList_load_row rfl 24 _ rfl (w.heap.size + 2) rfl 24 _ _ _ nN Try.underlying24 rfl (hi13 _ _ _ _ _ _ _ _ _ _ _ _ _) ?_) | (refine wpList_store_row rfl 24 _ _ rfl (w.heap.size + 1) _ rfl rfl 24 _ zV (hi13 _ _ _ _ _ _ _ _ _ _ _ _ _) rfl (hone13 _ _ _ _ _ _ _ _ _ _ _ _ _ _ _) ?_))
    refine bodyPost_ret (Head.results_row1 Try.results15 _ _ (w.heap.size + 1) 24 _ (0, 0) _ rfl (setRow_heap _ _ _ _ _ _ zV) Try.underlying24 rfl (hi13 _ _ _ _ _ _ _ _ _ _ _ _ _)) rfl ?_
    exact ⟨none, 0, by rw [HG.out]; rfl, by rw [HG.out]; exact .inl rfl, FIN.out _ (HV.out) _⟩
  have P := PA her hlt
  have G4' := G4 h700 her hlt
  have G5' := G5 h700 her hlt
  clear G2 G3 G4 G5 PA
  have hlt' : ¬ (s.size : Int) < (m : Int) := by omega
  go_wp2_with (refine wpList_load_row rfl 26 _ rfl w.heap.size rfl 26 _ _ _ aV Try.underlying26 rfl (hi2 _ _) ?_)
  refine (CR.out _).mono ?_
  rintro e w2 ⟨rfl, h2⟩
  have H2 := Lib.hid (HV.out.trans (h2.mono HV.out.size))
  have n2 := nV.below h2 nV.lt
  obtain ⟨-, z2, nN2⟩ := KP.out _ H2.out
  clear c0 c1 c2 c3 c4 c5 c6 c7 c8 nV h2 HV zV aV hV CR nN
  cases rt
  case false =>
    have HG := Lib.hid (G4' rfl)
    go_wp2_with (first | (refine wpList_load_row rfl 24 _ rfl (w.heap.size + 2) rfl 24 _ _ _ nN2 Try.underlying24 rfl (hi13 _ _ _ _ _ _ _ _ _ _ _ _ _) ?_) | (refine wpList_store_row rfl 24 _ _ rfl (w.heap.size + 1) _ rfl rfl 24 _ z2 (hi13 _ _ _ _ _ _ _ _ _ _ _ _ _) rfl (hone13 _ _ _ _ _ _ _ _ _ _ _ _ _ _ _) ?_))
    refine bodyPost_ret (Head.results_row1 Try.results15 _ _ (w.heap.size + 1) 24 _ (0, 0) _ rfl (setRow_heap _ _ _ _ _ _ z2) Try.underlying24 rfl (hi13 _ _ _ _ _ _ _ _ _ _ _ _ _)) rfl ?_
    exact ⟨none, 0, by rw [HG.out]; rfl, by rw [HG.out]; exact .inl rfl, FIN.out _ (H2.out) _⟩
  have HG5 := G5' rfl
  clear G4' G5' z2 nN2
  obtain ⟨n, hn⟩ : ∃ n, cutAt s - (s.size - (Head.get s).2.1.size) = n := ⟨_, rfl⟩
  rw [hn] at P
  have hP : readOf s (getOpts (optsOf s)) = ⟨(Head.get s).1.kind, (Head.get s).1.long, (Head.get s).1.src, (Head.get s).1.dst, (Head.get s).1.cc, (Head.get s).1.cover, (Head.get s).1.seq, ackN (Head.get s).1.kind (Head.get s).1.long (midOf s), servN (Head.get s).1.kind (Head.get s).1.long (midOf s), codeN (Head.get s).1.kind (Head.get s).1.long (midOf s), detN (Head.get s).1.kind (Head.get s).1.long (midOf s), getOpts (optsOf s), dataOf s⟩ := rfl
  have p1 := P.kind; have p2 := P.sum; have p3 := P.le; have p4 := P.room; have p5 := P.small; have p6 := P.mid; have p8 := P.less
  have p7 : s.extract m s.size = dataOf s := by rw [← hmd]; rfl
  rw [hmd] at p2
  have hxo := optsOf_mid s
  clear P hn hlt her hm
  generalize readOf s (getOpts (optsOf s)) = PK at *
  generalize optsOf s = xo at *
  generalize midOf s = mid at *
  generalize dataOf s = dat at *
  generalize (Head.get s).2.2 = er at *
  generalize (Head.get s).2.1 = re at *
  generalize (Head.get s).1 = g at *
  have q1 : IntKind.i64.wrap ((s.size : Int) - (re.size : Int)) = (s.size : Int) - (re.size : Int) := by rw [IntKind.wrap_i64]; omega
  have q2 : IntKind.i64.wrap ((m : Int) - ((s.size : Int) - (re.size : Int))) = n := by rw [IntKind.wrap_i64, p2]; omega
  have q3 : (0 : Int) ≤ (n : Int) := by omega
  have q4 : (n : Int) ≤ (re.size : Int) := by omega
  have q5 : IntKind.i64.wrap (n : Int) = n := by rw [IntKind.wrap_i64]; omega
  have q6 : IntKind.i64.wrap (m : Int) = m := by rw [IntKind.wrap_i64]; omega
  have q7 : (0 : Int) ≤ (m : Int) := by omega
  have q8 : (m : Int) ≤ (s.size : Int) := by omega
  have v2 := n2.cell
  obtain ⟨HA, hHA⟩ : ∃ HA, w1.heap.size = HA := ⟨_, rfl⟩
  rw [hHA] at v2 n2
  obtain ⟨c0, c1, c2, c3, c4, c5, c6, c7, c8⟩ := v2
  have v2 := n2.cell
  go_wp2_with fail
  refine Step.start (S := (fun w' => w'.cell? ⟨HA, 0, none⟩ = some (.int .i64 g.src) ∧ w'.cell? ⟨HA, 1, none⟩ = some (.int .i64 g.dst) ∧ w'.cell? ⟨HA, 2, none⟩ = some (.int .i64 g.words) ∧ w'.cell? ⟨HA, 3, none⟩ = some (.int .i64 g.cc) ∧ w'.cell? ⟨HA, 4, none⟩ = some (.int .i64 g.cover) ∧ w'.cell? ⟨HA, 5, none⟩ = some (.int .i64 g.sum) ∧ w'.cell? ⟨HA, 6, none⟩ = some (.int .i64 g.kind) ∧ w'.cell? ⟨HA, 7, none⟩ = some (.bool g.long) ∧ w'.cell? ⟨HA, 8, none⟩ = some (.int .i64 g.seq))) (by kernel_rfl) (by (try dsimp only); first | exact v2 | exact v3 | exact v4) (fun hHeld => ?_)
  refine Step.take (i := 0) rfl (by kernel_rfl) (by kernel_rfl) (by kernel_rfl) (fun _ _ _ h => h) (by rfl) (by (intro w hSw; (try dsimp only at hSw); go_simp; try (with_reducible rfl))) (by assumption) ?_
  try simp only [Act.put, List.setIfInBounds_toArray, List.set_cons_zero, List.set_cons_succ]
  refine Step.take (i := 1) rfl (by kernel_rfl) (by kernel_rfl) (by kernel_rfl) (fun _ _ _ h => h) (by rfl) (by (intro w hSw; (try dsimp only at hSw); go_simp; try (with_reducible rfl))) (by assumption) ?_
  try simp only [Act.put, List.setIfInBounds_toArray, List.set_cons_zero, List.set_cons_succ]
  refine Step.take (i := 2) rfl (by kernel_rfl) (by kernel_rfl) (by kernel_rfl) (fun _ _ _ h => h) (by rfl) (by (intro w hSw; (try dsimp only at hSw); go_simp; try (with_reducible rfl))) (by assumption) ?_
  try simp only [Act.put, List.setIfInBounds_toArray, List.set_cons_zero, List.set_cons_succ]
  refine Step.take (i := 3) rfl (by kernel_rfl) (by kernel_rfl) (by kernel_rfl) (fun _ _ _ h => h) (by rfl) (by (intro w hSw; (try dsimp only at hSw); go_simp; try (with_reducible rfl))) (by assumption) ?_
  try simp only [Act.put, List.setIfInBounds_toArray, List.set_cons_zero, List.set_cons_succ]
  refine Step.take (i := 4) rfl (by kernel_rfl) (by kernel_rfl) (by kernel_rfl) (fun _ _ _ h => h) (by rfl) (by (intro w hSw; (try dsimp only at hSw); go_simp; try (with_reducible rfl))) (by assumption) ?_
  try simp only [Act.put, List.setIfInBounds_toArray, List.set_cons_zero, List.set_cons_succ]
  refine Step.take (i := 5) rfl (by kernel_rfl) (by kernel_rfl) (by kernel_rfl) (fun _ _ _ h => h) (by rfl) (by (intro w hSw; (try dsimp only at hSw); go_simp; try (with_reducible rfl))) (by assumption) ?_
  try simp only [Act.put, List.setIfInBounds_toArray, List.set_cons_zero, List.set_cons_succ]
  refine Step.take (i := 6) rfl (by kernel_rfl) (by kernel_rfl) (by kernel_rfl) (fun _ _ _ h => h) (by rfl) (by (intro w hSw; (try dsimp only at hSw); go_simp; try (with_reducible rfl))) (by assumption) ?_
  try simp only [Act.put, List.setIfInBounds_toArray, List.set_cons_zero, List.set_cons_succ]
  refine Step.take (i := 7) rfl (by kernel_rfl) (by kernel_rfl) (by kernel_rfl) (fun _ _ _ h => h) (by rfl) (by (intro w hSw; (try dsimp only at hSw); go_simp; try (with_reducible rfl))) (by assumption) ?_
  try simp only [Act.put, List.setIfInBounds_toArray, List.set_cons_zero, List.set_cons_succ]
  refine Step.take (i := 8) rfl (by kernel_rfl) (by kernel_rfl) (by kernel_rfl) (fun _ _ _ h => h) (by rfl) (by (intro w hSw; (try dsimp only at hSw); go_simp; try (with_reducible rfl))) (by assumption) ?_
  try simp only [Act.put, List.setIfInBounds_toArray, List.set_cons_zero, List.set_cons_succ]
  refine Step.take (i := 9) rfl (by kernel_rfl) (by kernel_rfl) (by kernel_rfl) (fun _ _ _ h => h) (by rfl) (by (intro w hSw; (try dsimp only at hSw); go_simp; try (with_reducible rfl))) (by assumption) ?_
  try simp only [Act.put, List.setIfInBounds_toArray, List.set_cons_zero, List.set_cons_succ]
  refine Step.take (i := 10) rfl (by kernel_rfl) (by kernel_rfl) (by kernel_rfl) (fun _ _ _ h => h) (by rfl) (by (intro w hSw; (try dsimp only at hSw); go_simp; try (with_reducible rfl))) (by assumption) ?_
  try simp only [Act.put, List.setIfInBounds_toArray, List.set_cons_zero, List.set_cons_succ]
  refine Step.take (i := 11) rfl (by kernel_rfl) (by kernel_rfl) (by kernel_rfl) (fun _ _ _ h => h) (by rfl) (by (intro w hSw; (try dsimp only at hSw); go_simp; try (with_reducible rfl))) (by assumption) ?_
  try simp only [Act.put, List.setIfInBounds_toArray, List.set_cons_zero, List.set_cons_succ]
  refine Step.take (i := 12) rfl (by kernel_rfl) (by kernel_rfl) (by kernel_rfl) (fun _ _ _ h => h) (by rfl) (by (intro w hSw; (try dsimp only at hSw); go_simp; try (with_reducible rfl))) (by assumption) ?_
  try simp only [Act.put, List.setIfInBounds_toArray, List.set_cons_zero, List.set_cons_succ]
  refine Step.take (i := 13) rfl (by kernel_rfl) (by kernel_rfl) (by kernel_rfl) (fun _ _ _ h => h) (by rfl) (by (intro w hSw; (try dsimp only at hSw); go_simp; try (with_reducible rfl))) (by assumption) ?_
  try simp only [Act.put, List.setIfInBounds_toArray, List.set_cons_zero, List.set_cons_succ]
  refine Step.take (i := 14) rfl (by kernel_rfl) (by kernel_rfl) (by kernel_rfl) (fun _ _ _ h => h) (by rfl) (by (intro w hSw; (try dsimp only at hSw); go_simp; try (with_reducible rfl))) (by assumption) ?_
  try simp only [Act.put, List.setIfInBounds_toArray, List.set_cons_zero, List.set_cons_succ]
  refine Step.take (i := 15) rfl (by kernel_rfl) (by kernel_rfl) (by kernel_rfl) (fun _ _ _ h => h) (by rfl) (by (intro w hSw; (try dsimp only at hSw); go_simp; try (with_reducible rfl))) (by assumption) ?_
  try simp only [Act.put, List.setIfInBounds_toArray, List.set_cons_zero, List.set_cons_succ]
  refine Step.take (i := 16) rfl (by kernel_rfl) (by kernel_rfl) (by kernel_rfl) (fun _ _ _ h => h) (by rfl) (by (intro w hSw; (try dsimp only at hSw); go_simp; try (with_reducible rfl))) (by assumption) ?_
  try simp only [Act.put, List.setIfInBounds_toArray, List.set_cons_zero, List.set_cons_succ]
  refine Step.take (i := 17) rfl (by kernel_rfl) (by kernel_rfl) (by kernel_rfl) (fun _ _ _ h => h) (by rfl) (by (intro w hSw; (try dsimp only at hSw); go_simp; try (with_reducible rfl))) (by assumption) ?_
  try simp only [Act.put, List.setIfInBounds_toArray, List.set_cons_zero, List.set_cons_succ]
  refine Step.take (i := 18) rfl (by kernel_rfl) (by kernel_rfl) (by kernel_rfl) (fun _ _ _ h => h) (by rfl) (by (intro w hSw; (try dsimp only at hSw); go_simp; try (with_reducible rfl))) (by assumption) ?_
  try simp only [Act.put, List.setIfInBounds_toArray, List.set_cons_zero, List.set_cons_succ]
  refine Step.take (i := 19) rfl (by kernel_rfl) (by kernel_rfl) (by kernel_rfl) (fun _ _ _ h => h) (by rfl) (by (intro w hSw; (try dsimp only at hSw); go_simp; try (with_reducible rfl))) (by assumption) ?_
  try simp only [Act.put, List.setIfInBounds_toArray, List.set_cons_zero, List.set_cons_succ]
  refine Step.call (i := 20) rfl (by kernel_rfl) (by rfl) (fun K hK => ?_)
  go_simp
  have n3 : Head.Box9 (w2.drew.alloc (.cells #[.int .i64 0, .bool false, .int .i64 0, .int .i64 0, .int .i64 0, .int .i64 0, .int .i64 0, .int .i64 0, .int .i64 0, .int .i64 0, .int .i64 0, .slice none 0 0, .string ⟨#[]⟩] 24)) HA g := (Below.heap_alloc _ _ _ n2.lt).trans n2
  have v3 := n3.cell
  refine hK.out _ _ (by (try dsimp only); first | exact v2 | exact v3 | exact v4) (fun hHeld => ?_)
  clear hK K
  try simp only [Act.put, List.setIfInBounds_toArray, List.set_cons_zero, List.set_cons_succ]
  refine Step.call (i := 21) rfl (by kernel_rfl) (by rfl) (fun K hK => ?_)
  have z3 : BoxK (w2.drew.alloc (.cells #[.int .i64 0, .bool false, .int .i64 0, .int .i64 0, .int .i64 0, .int .i64 0, .int .i64 0, .int .i64 0, .int .i64 0, .int .i64 0, .int .i64 0, .slice none 0 0, .string ⟨#[]⟩] 24)) w2.heap.size Pkt.K.none none 0 := BoxK.new w2.drew Pkt.K.none none 0
  refine wp_store_row 24 _ _ rfl w2.heap.size _ rfl rfl 24 _ z3 (hi13 _ _ _ _ _ _ _ _ _ _ _ _ _) rfl (hone13 _ _ _ _ _ _ _ _ _ _ _ _ _ _ _) ?_
  have n4 : Head.Box9 ((w2.drew.alloc (.cells #[.int .i64 0, .bool false, .int .i64 0, .int .i64 0, .int .i64 0, .int .i64 0, .int .i64 0, .int .i64 0, .int .i64 0, .int .i64 0, .int .i64 0, .slice none 0 0, .string ⟨#[]⟩] 24)).setRow w2.heap.size #[.int .i64 g.kind, .bool g.long, .int .i64 g.src, .int .i64 g.dst, .int .i64 g.cc, .int .i64 g.cover, .int .i64 g.seq, .int .i64 0, .int .i64 0, .int .i64 0, .int .i64 0, .slice none 0 0, .string dat]) HA g := (setRow_other _ _ _ _ (by have := n2.lt; omega)).trans n3
  have v4 := n4.cell
  refine hK.out _ _ (by (try dsimp only); first | exact v2 | exact v3 | exact v4) (fun hHeld => ?_)
  clear hK K
  try simp only [Act.put]
  refine wpAnyH_done (by kernel_rfl) ?_ _
  obtain ⟨Y, hY⟩ : ∃ Y, (w2.alloc (.cells #[.int .i64 0, .bool false, .int .i64 0, .int .i64 0, .int .i64 0, .int .i64 0, .int .i64 0, .int .i64 0, .int .i64 0, .int .i64 0, .int .i64 0, .slice none 0 0, .string ⟨#[]⟩] 24)).drew.setRow w2.heap.size #[.int .i64 g.kind, .bool g.long, .int .i64 g.src, .int .i64 g.dst, .int .i64 g.cc, .int .i64 g.cover, .int .i64 g.seq, .int .i64 0, .int .i64 0, .int .i64 0, .int .i64 0, .slice none 0 0, .string dat] = Y := ⟨_, rfl⟩
  have n5 : Head.Box9 Y HA g := by rw [← hY]; exact n4
  have bY : BoxK Y w2.heap.size ⟨g.kind, g.long, g.src, g.dst, g.cc, g.cover, g.seq, 0, 0, 0, 0, [], dat⟩ none 0 := by rw [← hY]; exact setRow_heap _ _ _ _ _ _ z3
  have hw2 : W.heap.size ≤ w2.heap.size := H2.out.size
  have H3 := Lib.hid (show Below W.heap.size W Y by
    rw [← hY]
    have hx2 := (Below.refl w2.heap.size w2).alloc (Nat.le_refl _) (.cells #[.int .i64 0, .bool false, .int .i64 0, .int .i64 0, .int .i64 0, .int .i64 0, .int .i64 0, .int .i64 0, .int .i64 0, .int .i64 0, .int .i64 0, .slice none 0 0, .string ⟨#[]⟩] 24)
    exact Head.below_row ((H2.out.trans (hx2.mono H2.out.size)).drew) _ _ hw2)
  have hYw : w2.heap.size < Y.heap.size := bY.lt
  have rZ := ref_new Y (re.extract 0 n) 64
  have hx3 := (Below.refl Y.heap.size Y).alloc (Nat.le_refl _) (.cells #[.string (re.extract 0 n), .int .i64 0, .int .i64 0] 64)
  clear n3 v3 n4 v4 z3 v2 c0 c1 c2 c3 c4 c5 c6 c7 c8 q6 q7 q8
  obtain ⟨c0, c1, c2, c3, c4, c5, c6, c7, c8⟩ := n5.cell
  obtain ⟨Z, hZ⟩ : ∃ Z, Y.alloc (.cells #[.string (re.extract 0 n), .int .i64 0, .int .i64 0] 64) = Z := ⟨_, rfl⟩
  obtain ⟨CB, hCB⟩ : ∃ CB, Y.heap.size = CB := ⟨_, rfl⟩
  rw [hZ, hCB] at rZ
  rw [hZ, hCB] at hx3
  have hne : w2.heap.size ≠ CB := by omega
  have hHAl : HA < w2.heap.size := n2.lt
  have R0 : RQ Z w2.heap.size CB (re.extract 0 n) 0 ⟨g.kind, g.long, g.src, g.dst, g.cc, g.cover, g.seq, 0, 0, 0, 0, [], dat⟩ none 0 Z := ⟨rZ, bY.below hx3 (by omega), Touch2.refl _ _ _, hne⟩
  have HZ := Lib.hid (show Below W.heap.size W Z from H3.out.trans (hx3.mono (by rw [← hCB]; exact H3.out.size)))
  have HB9 := Lib.hid (show ∀ W', Touch2 w2.heap.size CB Z W' → Head.Box9 W' HA g from fun W' h' => (h'.block HA (by have := rZ.lt; omega) (by omega) (by omega)).trans (n5.below hx3 (by omega)))
  have HW' := Lib.hid (show ∀ W', Touch2 w2.heap.size CB Z W' → Below W.heap.size W W' from fun W' h' => HZ.out.trans (h'.toBelow (by omega) (by omega) HZ.out.size))
  obtain ⟨d0, d1, d2, d3, d4, d5, d6, d7, d8⟩ := (HB9.out _ (Touch2.refl _ _ _)).cell
  have RX : RQ Z w2.heap.size CB (re.extract 0 n) 0 ⟨g.kind, g.long, g.src, g.dst, g.cc, g.cover, g.seq, 0, 0, 0, 0, [], dat⟩ none 0 Z := R0
  clear hx3 rZ n5 bY H3 n2 H2 hHA
  -- what is read, and where
  obtain ⟨b2, e2⟩ : ∃ b, decide (g.kind < 2) = b := ⟨_, rfl⟩
  obtain ⟨b7, e7⟩ : ∃ b, (g.kind == 7) = b := ⟨_, rfl⟩
  have e7' : decide (g.kind = 7) = b7 := e7
  have e27 : decide (g.kind < 2 ∨ g.kind = 7) = (b2 || b7) := by rw [← e2, ← e7']; by_cases h1 : g.kind < 2 <;> by_cases h2 : g.kind = 7 <;> simp [h1, h2]
  have E1 : o1 g.kind g.long = if acks g.kind = true then (if g.long = true then 8 else 4) else 0 := rfl
  have EO : o2 g.kind g.long = o1 g.kind g.long + if (b2 || b7) = true then 4 else 0 := by unfold o2; rw [← e27]; simp only [decide_eq_true_eq]
  have EK : keptN g.kind g.long (re.extract 0 n) = if acks g.kind = true then (if g.long = true then (fld (re.extract 0 n) 0 2 : Int) else fld (re.extract 0 n) 0 1) else 0 := rfl
  have EA : ackN g.kind g.long (re.extract 0 n) = if acks g.kind = true then (if g.long = true then (fld (re.extract 0 n) 2 6 : Int) else fld (re.extract 0 n) 1 3) else 0 := rfl
  have ES : servN g.kind g.long (re.extract 0 n) = if b2 = true then (fld (re.extract 0 n) (o1 g.kind g.long) 4 : Int) else 0 := by unfold servN; rw [← e2]; simp only [decide_eq_true_eq]
  have EC : codeN g.kind g.long (re.extract 0 n) = if b7 = true then (fld (re.extract 0 n) (o1 g.kind g.long) 1 : Int) else 0 := by unfold codeN; rw [← e7']; simp only [decide_eq_true_eq]
  have ED : detN g.kind g.long (re.extract 0 n) = if b7 = true then (fld (re.extract 0 n) (o1 g.kind g.long + 1) 3 : Int) else 0 := by unfold detN; rw [← e7']; simp only [decide_eq_true_eq]
  have h27 := Lib.hid (show b2 = true → b7 = false from fun h => by rw [← e2] at h; rw [← e7]; simp at h; simp; omega)
  have hO12 : o1 g.kind g.long ≤ o2 g.kind g.long := by unfold o2; omega
  rw [p6] at p4 p5 hP HG5 hxo
  have CA := Lib.hid (fun w => refAcks_any g.kind w)
  generalize keptN g.kind g.long (re.extract 0 n) = KN at *
  generalize ackN g.kind g.long (re.extract 0 n) = AN at *
  generalize servN g.kind g.long (re.extract 0 n) = SN at *
  generalize codeN g.kind g.long (re.extract 0 n) = CN at *
  generalize detN g.kind g.long (re.extract 0 n) = DN at *
  generalize o2 g.kind g.long = OO at *
  generalize o1 g.kind g.long = OI at *
  generalize acks g.kind = pa at *
  have HGK := Lib.hid (show KN ≠ 0 → R = (K.none, 4) from fun h => HG5.trans (if_pos h))
  have E1' := Lib.hid E1; have EO' := Lib.hid EO; have EK' := Lib.hid EK; have EA' := Lib.hid EA; have ES' := Lib.hid ES; have EC' := Lib.hid EC; have ED' := Lib.hid ED; have hP' := Lib.hid hP; have hxo' := Lib.hid hxo; have HG5' := Lib.hid HG5; have p6' := Lib.hid p6
  clear E1 EO EK EA ES EC ED e7' e27 hP hxo HG5 p6
  go_wp2_with fail
  refine (CA.out _).mono ?_
  rintro e wq ⟨rfl, hq⟩
  replace hq := hq.symm
  subst hq
  go_upto_if 80 with fail
  go_cut [12] (fun nv wx => RQ Z w2.heap.size CB (re.extract 0 n) OI ⟨g.kind, g.long, g.src, g.dst, g.cc, g.cover, g.seq, AN, 0, 0, 0, [], dat⟩ none 0 wx ∧ KN = 0)
  case first =>
    clear HG5' hP' hxo' ES' EC' ED' EO' h27 d0 d1 d2 d3 d4 d5 d6 d7 d8
    cases pa
    case false =>
      obtain rfl : OI = 0 := E1'.out
      obtain rfl : KN = 0 := EK'.out
      obtain rfl : AN = 0 := EA'.out
      go_wp2_with fail
      go_meet
      exact ⟨R0, trivial⟩
    case true =>
      rcases Bool.eq_false_or_eq_true g.long with hgl | hgl
      · obtain rfl : OI = 8 := by rw [E1'.out, hgl]; rfl
        obtain rfl : AN = ((fld (re.extract 0 n) 2 6 : Nat) : Int) := by rw [EA'.out, hgl]; rfl
        obtain rfl : KN = ((fld (re.extract 0 n) 0 2 : Nat) : Int) := by rw [EK'.out, hgl]; rfl
        obtain ⟨c0, c1, c2, c3, c4, c5, c6, c7, c8⟩ := (HB9.out _ R0.touch).cell
        obtain ⟨x7, f7⟩ : _ ∧ _ := R0.box.some.2.1
        obtain ⟨⟨x8, f8⟩, ⟨x9, f9⟩, x10, f10⟩ := R0.box.some.2.2
        go_wp2_with fail
        refine (rnum_ok CB (re.extract 0 n) 0 2 _ (by rfl) (by decide) (by omega) (by omega) _ R0.cut).mono ?_
        rintro e w11 ⟨rfl, y11, t11⟩
        have R1 := R0.num y11 t11
        clear y11 t11 R0
        obtain ⟨c0, c1, c2, c3, c4, c5, c6, c7, c8⟩ := (HB9.out _ R1.touch).cell
        obtain ⟨x7, f7⟩ : _ ∧ _ := R1.box.some.2.1
        obtain ⟨⟨x8, f8⟩, ⟨x9, f9⟩, x10, f10⟩ := R1.box.some.2.2
        go_wp2_with fail
        refine (rnum_ok CB (re.extract 0 n) 2 6 _ (by rfl) (by decide) (by omega) (by omega) _ R1.cut).mono ?_
        rintro e w12 ⟨rfl, y12, t12⟩
        have R2 := R1.num y12 t12
        clear y12 t12 R1
        obtain ⟨c0, c1, c2, c3, c4, c5, c6, c7, c8⟩ := (HB9.out _ R2.touch).cell
        obtain ⟨x7, f7⟩ : _ ∧ _ := R2.box.some.2.1
        obtain ⟨⟨x8, f8⟩, ⟨x9, f9⟩, x10, f10⟩ := R2.box.some.2.2
        have R3 := R2.set 7 _ (R2.box.set7 ((fld (re.extract 0 n) 2 6 : Nat) : Int))
        clear R2
        obtain ⟨c0, c1, c2, c3, c4, c5, c6, c7, c8⟩ := (HB9.out _ R3.touch).cell
        obtain ⟨x7, f7⟩ : _ ∧ _ := R3.box.some.2.1
        obtain ⟨⟨x8, f8⟩, ⟨x9, f9⟩, x10, f10⟩ := R3.box.some.2.2
        by_cases hk0 : ((fld (re.extract 0 n) 0 2 : Nat) : Int) = 0
        · have hkb : (((fld (re.extract 0 n) 0 2 : Nat) : Int) != 0) = false := by rw [hk0]; rfl
          go_wp2_with fail
          go_meet
          exact ⟨R3, hk0⟩
        · have hkb : (((fld (re.extract 0 n) 0 2 : Nat) : Int) != 0) = true := by simpa using hk0
          have HG := Lib.hid (HGK.out hk0)
          obtain ⟨-, zq, nq⟩ := KP.out _ (HW'.out _ R3.touch)
          go_upto_region 21 with fail
          refine wp_region_list ?_
          refine wpList_load_row rfl 24 _ rfl (w.heap.size + 2) rfl 24 _ _ _ nq Try.underlying24 rfl (hi13 _ _ _ _ _ _ _ _ _ _ _ _ _) ?_
          try simp only [Act.put, List.setIfInBounds_toArray, List.set_cons_zero, List.set_cons_succ]
          refine wpList_store_row rfl 24 _ _ rfl (w.heap.size + 1) _ rfl rfl 24 _ zq (hi13 _ _ _ _ _ _ _ _ _ _ _ _ _) rfl (hone13 _ _ _ _ _ _ _ _ _ _ _ _ _ _ _) ?_
          try simp only [Act.put]
          refine wpList_plain rfl (fun K hK => ?_)
          go_simp
          refine hK _ _ ?_
          clear hK K
          unfold wpList
          repeat go_step
          try dsimp only [Exit.inBlock, Exit.then]
          refine bodyPost_ret (Head.results_row1 Try.results15 _ _ (w.heap.size + 1) 24 _ (0, 0) _ rfl (setRow_heap _ _ _ _ _ _ zq) Try.underlying24 rfl (hi13 _ _ _ _ _ _ _ _ _ _ _ _ _)) rfl ?_
          exact ⟨none, 0, by rw [HG.out]; rfl, by rw [HG.out]; exact .inl rfl, FIN.out _ (HW'.out _ R3.touch) _⟩
      · obtain rfl : OI = 4 := by rw [E1'.out, hgl]; rfl
        obtain rfl : AN = ((fld (re.extract 0 n) 1 3 : Nat) : Int) := by rw [EA'.out, hgl]; rfl
        obtain rfl : KN = ((fld (re.extract 0 n) 0 1 : Nat) : Int) := by rw [EK'.out, hgl]; rfl
        obtain ⟨c0, c1, c2, c3, c4, c5, c6, c7, c8⟩ := (HB9.out _ R0.touch).cell
        obtain ⟨x7, f7⟩ : _ ∧ _ := R0.box.some.2.1
        obtain ⟨⟨x8, f8⟩, ⟨x9, f9⟩, x10, f10⟩ := R0.box.some.2.2
        go_wp2_with fail
        refine (rnum_ok CB (re.extract 0 n) 0 1 _ (by rfl) (by decide) (by omega) (by omega) _ R0.cut).mono ?_
        rintro e w11 ⟨rfl, y11, t11⟩
        have R1 := R0.num y11 t11
        clear y11 t11 R0
        obtain ⟨c0, c1, c2, c3, c4, c5, c6, c7, c8⟩ := (HB9.out _ R1.touch).cell
        obtain ⟨x7, f7⟩ : _ ∧ _ := R1.box.some.2.1
        obtain ⟨⟨x8, f8⟩, ⟨x9, f9⟩, x10, f10⟩ := R1.box.some.2.2
        go_wp2_with fail
        refine (rnum_ok CB (re.extract 0 n) 1 3 _ (by rfl) (by decide) (by omega) (by omega) _ R1.cut).mono ?_
        rintro e w12 ⟨rfl, y12, t12⟩
        have R2 := R1.num y12 t12
        clear y12 t12 R1
        obtain ⟨c0, c1, c2, c3, c4, c5, c6, c7, c8⟩ := (HB9.out _ R2.touch).cell
        obtain ⟨x7, f7⟩ : _ ∧ _ := R2.box.some.2.1
        obtain ⟨⟨x8, f8⟩, ⟨x9, f9⟩, x10, f10⟩ := R2.box.some.2.2
        have R3 := R2.set 7 _ (R2.box.set7 ((fld (re.extract 0 n) 1 3 : Nat) : Int))
        clear R2
        obtain ⟨c0, c1, c2, c3, c4, c5, c6, c7, c8⟩ := (HB9.out _ R3.touch).cell
        obtain ⟨x7, f7⟩ : _ ∧ _ := R3.box.some.2.1
        obtain ⟨⟨x8, f8⟩, ⟨x9, f9⟩, x10, f10⟩ := R3.box.some.2.2
        by_cases hk0 : ((fld (re.extract 0 n) 0 1 : Nat) : Int) = 0
        · have hkb : (((fld (re.extract 0 n) 0 1 : Nat) : Int) != 0) = false := by rw [hk0]; rfl
          go_wp2_with fail
          go_meet
          exact ⟨R3, hk0⟩
        · have hkb : (((fld (re.extract 0 n) 0 1 : Nat) : Int) != 0) = true := by simpa using hk0
          have HG := Lib.hid (HGK.out hk0)
          obtain ⟨-, zq, nq⟩ := KP.out _ (HW'.out _ R3.touch)
          go_upto_region 21 with fail
          refine wp_region_list ?_
          refine wpList_load_row rfl 24 _ rfl (w.heap.size + 2) rfl 24 _ _ _ nq Try.underlying24 rfl (hi13 _ _ _ _ _ _ _ _ _ _ _ _ _) ?_
          try simp only [Act.put, List.setIfInBounds_toArray, List.set_cons_zero, List.set_cons_succ]
          refine wpList_store_row rfl 24 _ _ rfl (w.heap.size + 1) _ rfl rfl 24 _ zq (hi13 _ _ _ _ _ _ _ _ _ _ _ _ _) rfl (hone13 _ _ _ _ _ _ _ _ _ _ _ _ _ _ _) ?_
          try simp only [Act.put]
          refine wpList_plain rfl (fun K hK => ?_)
          go_simp
          refine hK _ _ ?_
          clear hK K
          unfold wpList
          repeat go_step
          try dsimp only [Exit.inBlock, Exit.then]
          refine bodyPost_ret (Head.results_row1 Try.results15 _ _ (w.heap.size + 1) 24 _ (0, 0) _ rfl (setRow_heap _ _ _ _ _ _ zq) Try.underlying24 rfl (hi13 _ _ _ _ _ _ _ _ _ _ _ _ _)) rfl ?_
          exact ⟨none, 0, by rw [HG.out]; rfl, by rw [HG.out]; exact .inl rfl, FIN.out _ (HW'.out _ R3.touch) _⟩
  case rest =>
    obtain ⟨R1, hK0⟩ := hcut
    have HG6 := Lib.hid (HG5'.out.trans (if_neg (fun h => h hK0)))
    clear CA EK' EA' E1' HGK R0 RX HG5' hK0 c0 c1 c2 c3 c4 c5 c6 c7 c8 d0 d1 d2 d3 d4 d5 d6 d7 d8
    obtain ⟨c0, c1, c2, c3, c4, c5, c6, c7, c8⟩ := (HB9.out _ R1.touch).cell
    clear c0 c1 c2 c3 c4 c5 c7 c8
    have e2n : decide (g.kind < 2) = b2 := e2
    go_upto_if 98 with fail
    go_cut [13] (fun nv wx => RQ Z w2.heap.size CB (re.extract 0 n) (OI + if b2 = true then 4 else 0) ⟨g.kind, g.long, g.src, g.dst, g.cc, g.cover, g.seq, AN, SN, 0, 0, [], dat⟩ none 0 wx)
    case first =>
      clear HG6 hP' hxo' EC' ED' h27
      have EOO := EO'.out
      cases b2
      case false =>
        obtain rfl : SN = 0 := ES'.out
        go_wp2_with fail
        go_meet
        exact R1
      case true =>
        obtain rfl : SN = ((fld (re.extract 0 n) OI 4 : Nat) : Int) := ES'.out
        have hroom : OI + 4 ≤ (re.extract 0 n).size := by simp at EOO; omega
        clear EOO
        go_wp2_with fail
        refine (rnum_ok CB (re.extract 0 n) OI 4 _ (by rfl) (by decide) (by omega) hroom _ R1.cut).mono ?_
        rintro e w3 ⟨rfl, y3, t3⟩
        have R2 := R1.num y3 t3
        obtain ⟨x8, f8⟩ := R2.box.some.2.2.1
        have R3 := R2.set 8 _ (R2.box.set8 ((fld (re.extract 0 n) OI 4 : Nat) : Int))
        clear R1 y3 t3 R2
        go_wp2_with fail
        go_meet
        exact R3
    case rest =>
      have R2 := hcut
      clear hcut R1 c6 ES'
      obtain ⟨c0, c1, c2, c3, c4, c5, c6, c7, c8⟩ := (HB9.out _ R2.touch).cell
      clear c0 c1 c2 c3 c4 c5 c7 c8
      go_upto_if 104 with fail
      go_cut [13] (fun nv wx => RQ Z w2.heap.size CB (re.extract 0 n) OO ⟨g.kind, g.long, g.src, g.dst, g.cc, g.cover, g.seq, AN, SN, CN, DN, [], dat⟩ none 0 wx)
      case first =>
        clear HG6 hP' hxo'
        have EOO := EO'.out
        cases b7
        case false =>
          obtain rfl : CN = 0 := EC'.out
          obtain rfl : DN = 0 := ED'.out
          have e9 : OI + (if b2 = true then 4 else 0) = OO := by rw [EOO]; cases b2 <;> rfl
          rw [e9] at R2
          go_wp2_with fail
          go_meet
          exact R2
        case true =>
          obtain rfl : b2 = false := by cases b2 <;> first | rfl | exact h27.out rfl
          obtain rfl : CN = ((fld (re.extract 0 n) OI 1 : Nat) : Int) := EC'.out
          obtain rfl : DN = ((fld (re.extract 0 n) (OI + 1) 3 : Nat) : Int) := ED'.out
          have hroom : OI + 4 ≤ (re.extract 0 n).size := by simp at EOO; omega
          have e9 : OI + 1 + 3 = OO := by simp at EOO; omega
          clear EOO
          have R2' : RQ Z w2.heap.size CB (re.extract 0 n) OI ⟨g.kind, g.long, g.src, g.dst, g.cc, g.cover, g.seq, AN, SN, 0, 0, [], dat⟩ none 0 wc := R2
          clear R2
          go_wp2_with fail
          refine (rnum_ok CB (re.extract 0 n) OI 1 _ (by rfl) (by decide) (by omega) (by omega) _ R2'.cut).mono ?_
          rintro e w3 ⟨rfl, y3, t3⟩
          have R3 := R2'.num y3 t3
          obtain ⟨x9, f9⟩ := R3.box.some.2.2.2.1
          have R4 := R3.set 9 _ (R3.box.set9 ((fld (re.extract 0 n) OI 1 : Nat) : Int))
          clear R2' y3 t3 R3
          go_wp2_with fail
          refine (rnum_ok CB (re.extract 0 n) (OI + 1) 3 _ (by rfl) (by decide) (by omega) (by omega) _ R4.cut).mono ?_
          rintro e w4 ⟨rfl, y4, t4⟩
          have R5 := R4.num y4 t4
          obtain ⟨x10, f10⟩ := R5.box.some.2.2.2.2
          have R6 := R5.set 10 _ (R5.box.set10 ((fld (re.extract 0 n) (OI + 1) 3 : Nat) : Int))
          rw [e9] at R6
          clear R4 y4 t4 R5
          go_wp2_with fail
          go_meet
          exact R6
      case rest =>
        have R3 := hcut
        clear hcut R2 c6 EC' ED' h27 EO' e2 e2n e7
        have hxz : xo.size ≤ 3000 := by rw [hxo'.out]; simp; omega
        have CR := rrest_ok CB (re.extract 0 n) OO (by omega) _ R3.cut
        rw [← hxo'.out] at CR
        go_wp2_with fail
        refine CR.mono ?_
        rintro e w4 ⟨rfl, t4⟩
        have b4 := R3.box.of_block (t4.block _ R3.box.lt R3.ne)
        have T4 := R3.touch.trans (Touch2.right t4)
        clear CR t4 R3
        go_wp2_with fail
        refine (Opt.RefGet_any xo hxz _).mono ?_
        rintro e w5 ⟨a5, cap5, rfl, o5, h5⟩
        have b5 := b4.below h5 b4.lt
        have T5 := Lib.hid (T4.trans (Touch2.below h5))
        clear b4 T4 h5
        obtain ⟨-, z5, nN5⟩ := KP.out _ (HW'.out _ T5.out)
        generalize getErr xo = ge at *
        by_cases hE0 : ge = 0
        case neg =>
          have HG := Lib.hid (HG6.out.trans (if_pos hE0))
          have hcb9 : (ge != 0) = true := by simpa using hE0
          clear hP' HG6
          go_upto_region 29 with fail
          refine wp_region_list ?_
          refine wpList_load_row rfl 24 _ rfl (w.heap.size + 2) rfl 24 _ _ _ nN5 Try.underlying24 rfl (hi13 _ _ _ _ _ _ _ _ _ _ _ _ _) ?_
          try simp only [Act.put, List.setIfInBounds_toArray, List.set_cons_zero, List.set_cons_succ]
          refine wpList_plain rfl (fun K hK => ?_)
          go_simp
          refine hK _ _ ?_
          clear hK K
          try simp only [Act.put, List.setIfInBounds_toArray, List.set_cons_zero, List.set_cons_succ]
          refine wpList_store_row rfl 24 _ _ rfl (w.heap.size + 1) _ rfl rfl 24 _ z5 (hi13 _ _ _ _ _ _ _ _ _ _ _ _ _) rfl (hone13 _ _ _ _ _ _ _ _ _ _ _ _ _ _ _) ?_
          try simp only [Act.put]
          refine wpList_plain rfl (fun K hK => ?_)
          go_simp
          refine hK _ _ ?_
          clear hK K
          unfold wpList
          repeat go_step
          try dsimp only [Exit.inBlock, Exit.then]
          refine bodyPost_ret (Head.results_row1 Try.results15 _ _ (w.heap.size + 1) 24 _ (0, 0) _ rfl (setRow_heap _ _ _ _ _ _ z5) Try.underlying24 rfl (hi13 _ _ _ _ _ _ _ _ _ _ _ _ _)) rfl ?_
          exact ⟨none, 0, by rw [HG.out]; rfl, by rw [HG.out]; exact .inl rfl, FIN.out _ (HW'.out _ T5.out) _⟩
        have hcb9 : (ge != 0) = false := by rw [hE0]; rfl
        have HG7 := Lib.hid (HG6.out.trans (if_neg (fun h => h hE0)))
        have hH : heldN PK = if 200 < dat.size then 11 else if spare PK = true then 4 else 0 := by rw [hP'.out]; unfold heldN; rfl
        have hS : spare PK = spare ⟨g.kind, g.long, g.src, g.dst, g.cc, g.cover, g.seq, AN, SN, CN, DN, [], dat⟩ := by rw [hP'.out]; rfl
        rw [hS] at hH
        have y12 := b5.cell.2.2.2.2.2.2.2.2.2.2.2.2
        dsimp only at y12
        clear HG6
        by_cases h200 : 200 < dat.size
        case pos =>
          have hh := hH.trans (if_pos h200)
          have HG := Lib.hid (HG7.out.trans (if_pos (by rw [hh]; decide)))
          rw [hh] at HG
          have h200' : (200 : Int) < (dat.size : Int) := by omega
          clear hP' HG7 hH hS
          go_upto_region 31 with fail
          refine wp_region_list ?_
          refine wpList_load_row rfl 24 _ rfl (w.heap.size + 2) rfl 24 _ _ _ nN5 Try.underlying24 rfl (hi13 _ _ _ _ _ _ _ _ _ _ _ _ _) ?_
          try simp only [Act.put, List.setIfInBounds_toArray, List.set_cons_zero, List.set_cons_succ]
          refine wpList_store_row rfl 24 _ _ rfl (w.heap.size + 1) _ rfl rfl 24 _ z5 (hi13 _ _ _ _ _ _ _ _ _ _ _ _ _) rfl (hone13 _ _ _ _ _ _ _ _ _ _ _ _ _ _ _) ?_
          try simp only [Act.put]
          refine wpList_plain rfl (fun K hK => ?_)
          go_simp
          refine hK _ _ ?_
          clear hK K
          unfold wpList
          repeat go_step
          try dsimp only [Exit.inBlock, Exit.then]
          refine bodyPost_ret (Head.results_row1 Try.results15 _ _ (w.heap.size + 1) 24 _ (0, 0) _ rfl (setRow_heap _ _ _ _ _ _ z5) Try.underlying24 rfl (hi13 _ _ _ _ _ _ _ _ _ _ _ _ _)) rfl ?_
          exact ⟨none, 0, by rw [HG.out]; rfl, by rw [HG.out]; exact .inl rfl, FIN.out _ (HW'.out _ T5.out) _⟩
        have h200' : ¬ (200 : Int) < (dat.size : Int) := by omega
        replace hH := hH.trans (if_neg h200)
        have CSP := spare_any ⟨g.kind, g.long, g.src, g.dst, g.cc, g.cover, g.seq, AN, SN, CN, DN, [], dat⟩ none 0
        generalize spare ⟨g.kind, g.long, g.src, g.dst, g.cc, g.cover, g.seq, AN, SN, CN, DN, [], dat⟩ = sp at *
        go_upto_region 32 with fail
        refine wp_region_list ?_
        refine wpList_load_row rfl 24 _ rfl w2.heap.size rfl 24 _ _ _ b5 Try.underlying24 rfl (hi13 _ _ _ _ _ _ _ _ _ _ _ _ _) ?_
        try simp only [Act.put, List.setIfInBounds_toArray, List.set_cons_zero, List.set_cons_succ]
        refine wpList_plain rfl (fun K hK => ?_)
        go_simp
        refine (CSP _).mono ?_
        rintro e w6 ⟨rfl, h6⟩
        refine hK _ _ ?_
        clear hK K
        try simp only [Act.put, List.setIfInBounds_toArray, List.set_cons_zero, List.set_cons_succ]
        have b6 := b5.below h6 b5.lt
        have T6 := Lib.hid (T5.out.trans (Touch2.below h6))
        have o6 := o5.below h6
        clear CSP b5 T5 o5 h6 z5 nN5 y12
        obtain ⟨-, z6, nN6⟩ := KP.out _ (HW'.out _ T6.out)
        cases sp
        case true =>
          have HG := Lib.hid (HG7.out.trans (if_pos (by rw [hH]; decide)))
          rw [hH, if_pos rfl] at HG
          clear hP' HG7 hH hS
          go_upto_region 33 with fail
          refine wp_region_list ?_
          refine wpList_load_row rfl 24 _ rfl (w.heap.size + 2) rfl 24 _ _ _ nN6 Try.underlying24 rfl (hi13 _ _ _ _ _ _ _ _ _ _ _ _ _) ?_
          try simp only [Act.put, List.setIfInBounds_toArray, List.set_cons_zero, List.set_cons_succ]
          refine wpList_store_row rfl 24 _ _ rfl (w.heap.size + 1) _ rfl rfl 24 _ z6 (hi13 _ _ _ _ _ _ _ _ _ _ _ _ _) rfl (hone13 _ _ _ _ _ _ _ _ _ _ _ _ _ _ _) ?_
          try simp only [Act.put]
          refine wpList_plain rfl (fun K hK => ?_)
          go_simp
          refine hK _ _ ?_
          clear hK K
          unfold wpList
          repeat go_step
          try dsimp only [Exit.inBlock, Exit.then]
          refine bodyPost_ret (Head.results_row1 Try.results15 _ _ (w.heap.size + 1) 24 _ (0, 0) _ rfl (setRow_heap _ _ _ _ _ _ z6) Try.underlying24 rfl (hi13 _ _ _ _ _ _ _ _ _ _ _ _ _)) rfl ?_
          exact ⟨none, 0, by rw [HG.out]; rfl, by rw [HG.out]; exact .inl rfl, FIN.out _ (HW'.out _ T6.out) _⟩
        have HG := Lib.hid (HG7.out.trans (if_neg (fun h => h (hH.trans (if_neg (by decide))))))
        have c11 := b6.cell.2.2.2.2.2.2.2.2.2.2.2.1
        have f11 := b6.free 11
        have b7' : BoxK (w6.setCell ⟨w2.heap.size, 11, none⟩ (.slice a5 (getOpts xo).length cap5)) w2.heap.size PK a5 cap5 := by rw [hP'.out]; exact b6.set11 (getOpts xo) a5 cap5
        have o7 : OptsAt (w6.setCell ⟨w2.heap.size, 11, none⟩ (.slice a5 (getOpts xo).length cap5)) a5 PK.opts := by rw [hP'.out]; exact opts_set o6 b6 11 _
        have T7 := Lib.hid (T6.out.trans (Touch2.set w2.heap.size CB 11 w6 (.slice a5 (getOpts xo).length cap5)))
        obtain ⟨-, z7, -⟩ := KP.out _ (HW'.out _ T7.out)
        clear HG7 hH hS hP' z6 nN6 o6 b6
        go_upto_region 35 with fail
        refine wp_region_list ?_
        refine wpList_load_row rfl 24 _ rfl w2.heap.size rfl 24 _ _ _ b7' Try.underlying24 rfl (hi13 _ _ _ _ _ _ _ _ _ _ _ _ _) ?_
        try simp only [Act.put, List.setIfInBounds_toArray, List.set_cons_zero, List.set_cons_succ]
        refine wpList_store_row rfl 24 _ _ rfl (w.heap.size + 1) _ rfl rfl 24 _ z7 (hi13 _ _ _ _ _ _ _ _ _ _ _ _ _) rfl (hone13 _ _ _ _ _ _ _ _ _ _ _ _ _ _ _) ?_
        try simp only [Act.put]
        refine wpList_plain rfl (fun K hK => ?_)
        go_simp
        refine hK _ _ ?_
        clear hK K
        unfold wpList
        repeat go_step
        try dsimp only [Exit.inBlock, Exit.then]
        refine bodyPost_ret (Head.results_row1 Try.results15 _ _ (w.heap.size + 1) 24 _ (0, 0) _ rfl (setRow_heap _ _ _ _ _ _ z7) Try.underlying24 rfl (hi13 _ _ _ _ _ _ _ _ _ _ _ _ _)) rfl ?_
        exact ⟨a5, cap5, by rw [HG.out]; rfl, by rw [HG.out]; exact opts_row o7 z7 _, FIN.out _ (HW'.out _ T7.out) _⟩
end Go.Proofs.Ytkjojfcknfhkhaa.Pkt
