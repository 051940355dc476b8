/- The sum of a packet's bytes: the contract of the document's. · What stands ahead of a packet's data: plain, and Put of a number to any text. · What stands ahead of a packet's data: the contract of the document's. · The document's Put of a packet: its contract. -/
import Derived.Test.YtkjojfcknfhkhaaPktR5
import Derived.Test.YtkjojfcknfhkhaaMHeadX
import Derived.Test.YtkjojfcknfhkhaaStep
namespace Go.Proofs.Ytkjojfcknfhkhaa.Pkt
open Go.ChangeShapes Go.WideShapes Go.ChangeAt Go.RowKit
open Go.Proofs.Ytkjojfcknfhkhaa.Inet (covc covVal pse pse_size refCovered_any refPseudo_any refSum_any StrsAt ws tot sumOf)
set_option linter.unusedVariables false

/-- what is summed of bytes ahead of the data, the data, and a path -/
def summed (x d : ByteArray) (c f t : Int) : Int := sumOf (ws (pse f t ((x.size : Int) + (d.size : Int))) + ws (covc x d c).1)

theorem covc_size (x d : ByteArray) (c : Int) : (covc x d c).1.size ≤ x.size + d.size := by
  unfold covc
  split
  · exact Nat.zero_le _
  · split
    · show (x ++ d).size ≤ _; rw [ByteArray.size_append]; exact Nat.le_refl _
    · split
      · exact Nat.zero_le _
      · show (x ++ d.extract 0 _).size ≤ _; rw [ByteArray.size_append]; simp; omega

set_option maxRecDepth 100000 in
set_option maxHeartbeats 4000000 in
theorem refsum_any (x d : ByteArray) (c f t : Int) (hx : x.size ≤ 4000) (hd : d.size ≤ 4000) (w : World) :
    Calls Try.prog 24 #[.string x, .string d, .int .i64 c, .agg #[.int .i64 f, .int .i64 t]] w fun e w' => e = .returned (.tuple #[.int .i64 (summed x d c f t), .bool (covc x d c).2]) ∧ Below w.heap.size w w' := by
  have hS := Lib.hid (show summed x d c f t = sumOf (ws (pse f t ((x.size : Int) + (d.size : Int))) + ws (covc x d c).1) from rfl)
  have CC := Lib.hid (fun w => refCovered_any x d c w hx hd)
  unfold covVal at CC
  have hcs := covc_size x d c
  have CP := Lib.hid (fun w => refPseudo_any f t ((x.size : Int) + (d.size : Int)) w)
  have hps := pse_size f t ((x.size : Int) + (d.size : Int))
  have hb0 := Lib.hid ((Below.refl w.heap.size w).alloc (Nat.le_refl _) (.cells #[.int .i64 f, .int .i64 t] 26))
  generalize summed x d c f t = S at *
  generalize pse f t ((x.size : Int) + (d.size : Int)) = ps at *
  generalize (covc x d c).1 = cv at *
  generalize (covc x d c).2 = ok at *
  go_enter Try.func24, Try.ntmps24
  go_wp2_with fail
  refine (CC.out _).mono ?_
  rintro e w1 ⟨rfl, h1⟩
  subst h1
  go_wp2_with fail
  refine (CP.out _).mono ?_
  rintro e w2 ⟨rfl, h2⟩
  have b2 := hb0.out.trans (h2.mono hb0.out.size)
  have b3 := b2.alloc b2.size (.cells #[.string ps, .string cv] 9)
  have hat : StrsAt (w2.alloc (.cells #[.string ps, .string cv] 9)) (some ⟨w2.heap.size, 0, none⟩) 2 (fun i => if i = 0 then ps else cv) := by
    refine .inr ⟨w2.heap.size, 0, rfl, by simp, fun i hi => ?_⟩
    have hc := World.cell?_alloc_mark w2 #[.string ps, .string cv] 9 (0, 0) i
    have : i = 0 ∨ i = 1 := by omega
    rcases this with rfl | rfl <;> exact hc
  have CS := refSum_any (some ⟨w2.heap.size, 0, none⟩) 2 2 (fun i => if i = 0 then ps else cv) _ (by omega) (fun i hi => by split <;> omega) hat
  rw [show tot (fun i => ws ((fun i => if i = 0 then ps else cv) i)) 2 = ws ps + ws cv by simp [tot]] at CS
  have CS2 := Lib.hid CS
  clear CS hat h2 CC CP
  go_wp2_with fail
  refine CS2.out.mono ?_
  rintro e w3 ⟨rfl, h3⟩
  subst h3
  go_wp2_with fail
  go_returns
  exact ⟨by rw [hS.out]; rfl, b3⟩
end Go.Proofs.Ytkjojfcknfhkhaa.Pkt

namespace Go.Proofs.Ytkjojfcknfhkhaa.Pkt
open Go.ChangeShapes Go.WideShapes Go.ChangeAt Go.RowKit
open Go.Proofs.Ytkjojfcknfhkhaa.Opt (O OptsAt Fit RefPut_any)
open Go.Proofs.Ytkjojfcknfhkhaa.Oct (be nat64 held be_length refPut_any u64_cast u64_lt)
open Go.Proofs.Ytkjojfcknfhkhaa.Head (refAcks_any acks rowOf putText refPutH_any put_size at_drew)
set_option linter.unusedVariables false

/-- the numbers behind the beginning -/
def extra (p : K) : ByteArray :=
  ⟨((if acks p.kind then (if p.long then be (nat64 p.ack) 8 else be (nat64 p.ack) 4) else []) ++ (if p.kind < 2 then be (nat64 p.service) 4 else if p.kind = 7 then be (nat64 (p.code * 16777216 + p.detail)) 4 else [])).toArray⟩
def aheadText (p : K) (sum : Int) : ByteArray := putText (begins p sum) ++ extra p ++ optText p.opts

theorem refPutS (s : ByteArray) (v' v size : Int) (k : Nat) (hk : held size = k) (hv : v' = (nat64 v : Int)) (hs : s.size ≤ 3000) (w : World) :
    Calls Try.prog 57 #[.string s, .int .u64 v', .int .i64 size] w fun e w' => e = .returned (.string (s ++ ⟨(be (nat64 v) k).toArray⟩)) ∧ Below w.heap.size w w' := by
  subst hk hv
  exact refPut_any s (nat64 v) size w (by omega) (by have := u64_lt v; omega)

end Go.Proofs.Ytkjojfcknfhkhaa.Pkt

namespace Go.Proofs.Ytkjojfcknfhkhaa.Pkt
open Go.ChangeShapes Go.WideShapes Go.ChangeAt Go.RowKit
open Go.Proofs.Ytkjojfcknfhkhaa.Opt (O OptsAt Fit RefPut_any)
open Go.Proofs.Ytkjojfcknfhkhaa.Oct (be nat64 held be_length refPut_any u64_cast u64_lt)
open Go.Proofs.Ytkjojfcknfhkhaa.Head (refAcks_any acks rowOf putText refPutH_any put_size at_drew)
set_option linter.unusedVariables false

/-- the other packet's number -/
def extra1 (p : K) : ByteArray := if acks p.kind then (if p.long then ⟨(be (nat64 p.ack) 8).toArray⟩ else ⟨(be (nat64 p.ack) 4).toArray⟩) else ⟨#[]⟩
/-- the service, or the reset's numbers -/
def extra2 (p : K) : ByteArray := if p.kind < 2 then ⟨(be (nat64 p.service) 4).toArray⟩ else if p.kind = 7 then ⟨(be (nat64 (p.code * 16777216 + p.detail)) 4).toArray⟩ else ⟨#[]⟩
theorem extra_two (p : K) : extra p = extra1 p ++ extra2 p := by
  apply Opt.ext_l
  rw [Opt.list_append]
  unfold extra extra1 extra2
  cases acks p.kind <;> cases p.long <;> by_cases h1 : p.kind < 2 <;> by_cases h2 : p.kind = 7 <;> simp [h1, h2]
theorem extra1_size (p : K) : (extra1 p).size ≤ 8 := by
  unfold extra1
  split
  · split
    · show (be (nat64 p.ack) 8).toArray.size ≤ 8; simp
    · show (be (nat64 p.ack) 4).toArray.size ≤ 8; simp
  · exact Nat.zero_le _
theorem extra2_size (p : K) : (extra2 p).size ≤ 4 := by
  unfold extra2
  split
  · show (be (nat64 p.service) 4).toArray.size ≤ 4; simp
  · split
    · show (be _ 4).toArray.size ≤ 4; simp
    · exact Nat.zero_le _

theorem optText_size (l : List O) : (optText l).size ≤ 403 := by
  by_cases h : Opt.check l = 0
  · obtain ⟨-, hs⟩ := Opt.check_wrongs h
    have h1 := (optText_mod h).1
    have h2 : pad l ≤ 3 := by unfold pad; omega
    omega
  · unfold optText
    rw [if_neg h]
    exact Nat.zero_le _

theorem put_sz (x : ByteArray) (l : List UInt8) : (x ++ ⟨l.toArray⟩).size = x.size + l.length := by rw [ByteArray.size_append]; rfl
theorem ba_nil (x : ByteArray) : x ++ (⟨#[]⟩ : ByteArray) = x := by apply Opt.ext_l; rw [Opt.list_append]; simp
theorem ba_assoc (x y z : ByteArray) : x ++ y ++ z = x ++ (y ++ z) := by apply Opt.ext_l; simp only [Opt.list_append, List.append_assoc]

set_option maxRecDepth 100000 in
set_option maxHeartbeats 4000000 in
theorem refAhead_any (p : K) (hl : Fit p.opts) (sum : Int) (h7 : p.kind = 7 → (0 ≤ p.code ∧ p.code ≤ 255) ∧ 0 ≤ p.detail ∧ p.detail ≤ 16777215) (a : Option Addr) (cap : Nat) (w : World) (h : OptsAt w a p.opts) :
    Calls Try.prog 25 #[.agg #[.int .i64 p.kind, .bool p.long, .int .i64 p.src, .int .i64 p.dst, .int .i64 p.cc, .int .i64 p.cover, .int .i64 p.seq, .int .i64 p.ack, .int .i64 p.service, .int .i64 p.code, .int .i64 p.detail, .slice a p.opts.length cap, .string p.data], .int .i64 sum] w
      fun e w' => e = .returned (.string (aheadText p sum)) ∧ Below w.heap.size w w' := by
  have hos := optText_size p.opts
  have hT := Lib.hid (show aheadText p sum = putText (begins p sum) ++ extra1 p ++ extra2 p ++ optText p.opts by unfold aheadText; rw [extra_two, ← ba_assoc (putText _)])
  have hbox := BoxK.new w p a cap
  have hb1 := (Below.refl w.heap.size w).alloc (Nat.le_refl _) (.cells #[.int .i64 p.kind, .bool p.long, .int .i64 p.src, .int .i64 p.dst, .int .i64 p.cc, .int .i64 p.cover, .int .i64 p.seq, .int .i64 p.ack, .int .i64 p.service, .int .i64 p.code, .int .i64 p.detail, .slice a p.opts.length cap, .string p.data] 24)
  have HO := Lib.hid (h.below hb1)
  have CB := Lib.hid (begin_any p hl a cap _ HO.out)
  have hps := put_size (begins p sum)
  have CP := Lib.hid (fun w => refPutH_any (begins p sum) w)
  have CO := Lib.hid (fun w (h : OptsAt w a p.opts) => RefPut_any p.opts hl a cap w h)
  have H0 := Lib.hid h
  have he1 := extra1_size p
  have he2 := extra2_size p
  have E1 := Lib.hid (show extra1 p = if acks p.kind then (if p.long then ⟨(be (nat64 p.ack) 8).toArray⟩ else ⟨(be (nat64 p.ack) 4).toArray⟩) else ⟨#[]⟩ from rfl)
  have E2 := Lib.hid (show extra2 p = if p.kind < 2 then ⟨(be (nat64 p.service) 4).toArray⟩ else if p.kind = 7 then ⟨(be (nat64 (p.code * 16777216 + p.detail)) 4).toArray⟩ else ⟨#[]⟩ from rfl)
  have CA := Lib.hid (fun w => refAcks_any p.kind w)
  have hsz : (w.alloc (.cells #[.int .i64 p.kind, .bool p.long, .int .i64 p.src, .int .i64 p.dst, .int .i64 p.cc, .int .i64 p.cover, .int .i64 p.seq, .int .i64 p.ack, .int .i64 p.service, .int .i64 p.code, .int .i64 p.detail, .slice a p.opts.length cap, .string p.data] 24)).heap.size = w.heap.size + 1 := by simp
  generalize aheadText p sum = T at *
  generalize optText p.opts = T3 at *
  generalize Opt.check p.opts = c3 at *
  obtain ⟨T1, hT1⟩ : ∃ T1, putText (begins p sum) = T1 := ⟨_, rfl⟩
  rw [hT1] at hT hps CP
  generalize extra1 p = X1 at *
  generalize extra2 p = X2 at *
  have HB1 := Lib.hid hb1
  obtain ⟨cb, hcb⟩ : ∃ cb, Head.check (begins p sum) = cb := ⟨_, rfl⟩
  rw [hcb] at CP
  obtain ⟨B0, hB0⟩ : ∃ B0, begins p 0 = B0 := ⟨_, rfl⟩
  replace CP := Lib.hid (show ∀ w, Calls Try.prog 56 #[.agg #[.int .i64 B0.src, .int .i64 B0.dst, .int .i64 B0.words, .int .i64 B0.cc, .int .i64 B0.cover, .int .i64 sum, .int .i64 B0.kind, .bool B0.long, .int .i64 B0.seq]] w
    fun e w' => e = .returned (.tuple #[.string T1, .int .i64 cb]) ∧ Below w.heap.size w w' by rw [← hB0]; exact CP.out)
  rw [hB0] at CB
  obtain ⟨z0, z1, z2, z3, z4, z5, z6, z7, z8⟩ := B0
  clear hB0 hcb hb1 hl h hT1
  dsimp only [rowOf] at CB CP
  go_enter Try.func25, Try.ntmps25
  go_wp2_with fail
  refine CB.out.mono ?_
  rintro e w1 ⟨rfl, h1⟩
  have k1 := hbox.below h1 (by rw [hsz]; exact Nat.lt_succ_self _)
  have b1 := HB1.out.trans (h1.mono HB1.out.size)
  clear hbox h1 hsz CB HO HB1
  go_wp2_with fail
  refine (CP.out _).mono ?_
  rintro e w2 ⟨rfl, h2⟩
  have hx := (Below.refl w1.heap.size w1).alloc (Nat.le_refl _) (.cells #[.int .i64 z0, .int .i64 z1, .int .i64 z2, .int .i64 z3, .int .i64 z4, .int .i64 sum, .int .i64 z6, .bool z7, .int .i64 z8] 43)
  have k1' := k1.below hx k1.lt
  have k2 := k1'.below h2 k1'.lt
  have b1' := b1.trans (hx.mono b1.size)
  have b2 := b1'.trans (h2.mono b1'.size)
  clear hx k1 k1' b1 b1' h2 CP
  obtain ⟨A, hA⟩ : ∃ A, w.heap.size = A := ⟨_, rfl⟩
  obtain ⟨k, l, s, d, cc, cv, q, ak, sv, co, de, os, da⟩ := p
  dsimp only at *
  rw [hA] at k2 b2 ⊢
  obtain ⟨pa, ep⟩ : ∃ b, acks k = b := ⟨_, rfl⟩
  obtain ⟨b2, e2⟩ : ∃ b, decide (k < 2) = b := ⟨_, rfl⟩
  obtain ⟨b7, e7⟩ : ∃ b, (k == 7) = b := ⟨_, rfl⟩
  rw [ep] at E1 CA
  clear ep
  replace E2 := Lib.hid (show X2 = if b2 = true then ⟨(be (nat64 sv) 4).toArray⟩ else if b7 = true then ⟨(be (nat64 (co * 16777216 + de)) 4).toArray⟩ else ⟨#[]⟩ by
    rw [E2.out, ← e2, ← e7]; simp only [decide_eq_true_eq, beq_iff_eq])
  have h7' := Lib.hid (show b7 = true → (0 ≤ co ∧ co ≤ 255) ∧ 0 ≤ de ∧ de ≤ 16777215 from fun h => h7 (by rw [← e7] at h; exact beq_iff_eq.1 h))
  obtain ⟨y0, y1, y2, y3, y4, y5, y6, y7, y8, y9, y10, y11, y12⟩ := k2.cell
  dsimp only at y0 y1 y2 y3 y4 y5 y6 y7 y8 y9 y10 y11 y12
  have h27 := Lib.hid (show b2 = true → b7 = false from fun h => by rw [← e2] at h; rw [← e7]; simp at h; simp; omega)
  clear h7 y2 y3 y4 y5 y6 y12
  cases pa
  · cases b2
    · cases b7
      · go_wp2_with (go_at_call 33; refine (CA.out _).mono ?_; rintro e w9 ⟨rfl, rfl⟩)
        refine (CO.out _ (H0.out.below (hA ▸ b2))).mono ?_
        rintro e w9 ⟨rfl, h9⟩
        go_wp2_with fail
        go_ret
        rw [hA]
        exact ⟨by rw [hT.out, E1.out, E2.out]; simp [ba_nil], b2.trans (h9.mono (Nat.le_of_lt k2.lt))⟩
      · obtain ⟨⟨g0, g1⟩, g2, g3⟩ := h7'.out rfl
        go_wp2_with (go_at_call 33; refine (CA.out _).mono ?_; rintro e w9 ⟨rfl, rfl⟩)
        have C2 := fun w => refPutS T1 (co * 16777216 + de) (co * 16777216 + de) 4 4 rfl (Head.nat64_of (co * 16777216 + de) (by omega)).1.symm (by omega) w
        refine (C2 _).mono ?_
        rintro e w3 ⟨rfl, h3⟩
        clear C2
        have k3 := k2.below h3 k2.lt
        have b3 := b2.trans (h3.mono (Nat.le_of_lt k2.lt))
        obtain ⟨y0, y1, y2, y3, y4, y5, y6, y7, y8, y9, y10, y11, y12⟩ := k3.cell
        dsimp only at y0 y1 y2 y3 y4 y5 y6 y7 y8 y9 y10 y11 y12
        have s3 : (T1 ++ ⟨(be (nat64 (co * 16777216 + de)) 4).toArray⟩).size ≤ 24 := by rw [put_sz, be_length]; omega
        go_wp2_with (go_at_call 33; refine (CA.out _).mono ?_; rintro e w9 ⟨rfl, rfl⟩)
        refine (CO.out _ (H0.out.below (hA ▸ b3))).mono ?_
        rintro e w9 ⟨rfl, h9⟩
        go_wp2_with fail
        go_ret
        rw [hA]
        exact ⟨by rw [hT.out, E1.out, E2.out]; simp [ba_nil], b3.trans (h9.mono (Nat.le_of_lt k3.lt))⟩
    · have z7' := h27.out rfl; subst z7'
      go_wp2_with (go_at_call 33; refine (CA.out _).mono ?_; rintro e w9 ⟨rfl, rfl⟩)
      have C2 := fun w => refPutS T1 (IntKind.u64.wrap sv) sv 4 4 rfl (Inet.u64_wrap sv) (by omega) w
      refine (C2 _).mono ?_
      rintro e w3 ⟨rfl, h3⟩
      clear C2
      have k3 := k2.below h3 k2.lt
      have b3 := b2.trans (h3.mono (Nat.le_of_lt k2.lt))
      obtain ⟨y0, y1, y2, y3, y4, y5, y6, y7, y8, y9, y10, y11, y12⟩ := k3.cell
      dsimp only at y0 y1 y2 y3 y4 y5 y6 y7 y8 y9 y10 y11 y12
      have s3 : (T1 ++ ⟨(be (nat64 sv) 4).toArray⟩).size ≤ 24 := by rw [put_sz, be_length]; omega
      go_wp2_with (go_at_call 33; refine (CA.out _).mono ?_; rintro e w9 ⟨rfl, rfl⟩)
      refine (CO.out _ (H0.out.below (hA ▸ b3))).mono ?_
      rintro e w9 ⟨rfl, h9⟩
      go_wp2_with fail
      go_ret
      rw [hA]
      exact ⟨by rw [hT.out, E1.out, E2.out]; simp [ba_nil], b3.trans (h9.mono (Nat.le_of_lt k3.lt))⟩
  · cases l
    · cases b2
      · cases b7
        · go_wp2_with (go_at_call 33; refine (CA.out _).mono ?_; rintro e w9 ⟨rfl, rfl⟩)
          have C2 := fun w => refPutS T1 (IntKind.u64.wrap ak) ak 4 4 rfl (Inet.u64_wrap ak) (by omega) w
          refine (C2 _).mono ?_
          rintro e w3 ⟨rfl, h3⟩
          clear C2
          have k3 := k2.below h3 k2.lt
          have b3 := b2.trans (h3.mono (Nat.le_of_lt k2.lt))
          obtain ⟨y0, y1, y2, y3, y4, y5, y6, y7, y8, y9, y10, y11, y12⟩ := k3.cell
          dsimp only at y0 y1 y2 y3 y4 y5 y6 y7 y8 y9 y10 y11 y12
          have s3 : (T1 ++ ⟨(be (nat64 ak) 4).toArray⟩).size ≤ 24 := by rw [put_sz, be_length]; omega
          go_wp2_with (go_at_call 33; refine (CA.out _).mono ?_; rintro e w9 ⟨rfl, rfl⟩)
          refine (CO.out _ (H0.out.below (hA ▸ b3))).mono ?_
          rintro e w9 ⟨rfl, h9⟩
          go_wp2_with fail
          go_ret
          rw [hA]
          exact ⟨by rw [hT.out, E1.out, E2.out]; simp [ba_nil], b3.trans (h9.mono (Nat.le_of_lt k3.lt))⟩
        · obtain ⟨⟨g0, g1⟩, g2, g3⟩ := h7'.out rfl
          go_wp2_with (go_at_call 33; refine (CA.out _).mono ?_; rintro e w9 ⟨rfl, rfl⟩)
          have C2 := fun w => refPutS T1 (IntKind.u64.wrap ak) ak 4 4 rfl (Inet.u64_wrap ak) (by omega) w
          refine (C2 _).mono ?_
          rintro e w3 ⟨rfl, h3⟩
          clear C2
          have k3 := k2.below h3 k2.lt
          have b3 := b2.trans (h3.mono (Nat.le_of_lt k2.lt))
          obtain ⟨y0, y1, y2, y3, y4, y5, y6, y7, y8, y9, y10, y11, y12⟩ := k3.cell
          dsimp only at y0 y1 y2 y3 y4 y5 y6 y7 y8 y9 y10 y11 y12
          have s3 : (T1 ++ ⟨(be (nat64 ak) 4).toArray⟩).size ≤ 24 := by rw [put_sz, be_length]; omega
          go_wp2_with (go_at_call 33; refine (CA.out _).mono ?_; rintro e w9 ⟨rfl, rfl⟩)
          have C3 := fun w => refPutS (T1 ++ ⟨(be (nat64 ak) 4).toArray⟩) (co * 16777216 + de) (co * 16777216 + de) 4 4 rfl (Head.nat64_of (co * 16777216 + de) (by omega)).1.symm (by omega) w
          refine (C3 _).mono ?_
          rintro e w4 ⟨rfl, h4⟩
          clear C3
          have k4 := k3.below h4 k3.lt
          have b4 := b3.trans (h4.mono (Nat.le_of_lt k3.lt))
          obtain ⟨y0, y1, y2, y3, y4, y5, y6, y7, y8, y9, y10, y11, y12⟩ := k4.cell
          dsimp only at y0 y1 y2 y3 y4 y5 y6 y7 y8 y9 y10 y11 y12
          have s4 : ((T1 ++ ⟨(be (nat64 ak) 4).toArray⟩) ++ ⟨(be (nat64 (co * 16777216 + de)) 4).toArray⟩).size ≤ 32 := by rw [put_sz, be_length]; omega
          go_wp2_with (go_at_call 33; refine (CA.out _).mono ?_; rintro e w9 ⟨rfl, rfl⟩)
          refine (CO.out _ (H0.out.below (hA ▸ b4))).mono ?_
          rintro e w9 ⟨rfl, h9⟩
          go_wp2_with fail
          go_ret
          rw [hA]
          exact ⟨by rw [hT.out, E1.out, E2.out]; simp, b4.trans (h9.mono (Nat.le_of_lt k4.lt))⟩
      · have z7' := h27.out rfl; subst z7'
        go_wp2_with (go_at_call 33; refine (CA.out _).mono ?_; rintro e w9 ⟨rfl, rfl⟩)
        have C2 := fun w => refPutS T1 (IntKind.u64.wrap ak) ak 4 4 rfl (Inet.u64_wrap ak) (by omega) w
        refine (C2 _).mono ?_
        rintro e w3 ⟨rfl, h3⟩
        clear C2
        have k3 := k2.below h3 k2.lt
        have b3 := b2.trans (h3.mono (Nat.le_of_lt k2.lt))
        obtain ⟨y0, y1, y2, y3, y4, y5, y6, y7, y8, y9, y10, y11, y12⟩ := k3.cell
        dsimp only at y0 y1 y2 y3 y4 y5 y6 y7 y8 y9 y10 y11 y12
        have s3 : (T1 ++ ⟨(be (nat64 ak) 4).toArray⟩).size ≤ 24 := by rw [put_sz, be_length]; omega
        go_wp2_with (go_at_call 33; refine (CA.out _).mono ?_; rintro e w9 ⟨rfl, rfl⟩)
        have C3 := fun w => refPutS (T1 ++ ⟨(be (nat64 ak) 4).toArray⟩) (IntKind.u64.wrap sv) sv 4 4 rfl (Inet.u64_wrap sv) (by omega) w
        refine (C3 _).mono ?_
        rintro e w4 ⟨rfl, h4⟩
        clear C3
        have k4 := k3.below h4 k3.lt
        have b4 := b3.trans (h4.mono (Nat.le_of_lt k3.lt))
        obtain ⟨y0, y1, y2, y3, y4, y5, y6, y7, y8, y9, y10, y11, y12⟩ := k4.cell
        dsimp only at y0 y1 y2 y3 y4 y5 y6 y7 y8 y9 y10 y11 y12
        have s4 : ((T1 ++ ⟨(be (nat64 ak) 4).toArray⟩) ++ ⟨(be (nat64 sv) 4).toArray⟩).size ≤ 32 := by rw [put_sz, be_length]; omega
        go_wp2_with (go_at_call 33; refine (CA.out _).mono ?_; rintro e w9 ⟨rfl, rfl⟩)
        refine (CO.out _ (H0.out.below (hA ▸ b4))).mono ?_
        rintro e w9 ⟨rfl, h9⟩
        go_wp2_with fail
        go_ret
        rw [hA]
        exact ⟨by rw [hT.out, E1.out, E2.out]; simp, b4.trans (h9.mono (Nat.le_of_lt k4.lt))⟩
    · cases b2
      · cases b7
        · go_wp2_with (go_at_call 33; refine (CA.out _).mono ?_; rintro e w9 ⟨rfl, rfl⟩)
          have C2 := fun w => refPutS T1 (IntKind.u64.wrap ak) ak 8 8 rfl (Inet.u64_wrap ak) (by omega) w
          refine (C2 _).mono ?_
          rintro e w3 ⟨rfl, h3⟩
          clear C2
          have k3 := k2.below h3 k2.lt
          have b3 := b2.trans (h3.mono (Nat.le_of_lt k2.lt))
          obtain ⟨y0, y1, y2, y3, y4, y5, y6, y7, y8, y9, y10, y11, y12⟩ := k3.cell
          dsimp only at y0 y1 y2 y3 y4 y5 y6 y7 y8 y9 y10 y11 y12
          have s3 : (T1 ++ ⟨(be (nat64 ak) 8).toArray⟩).size ≤ 24 := by rw [put_sz, be_length]; omega
          go_wp2_with (go_at_call 33; refine (CA.out _).mono ?_; rintro e w9 ⟨rfl, rfl⟩)
          refine (CO.out _ (H0.out.below (hA ▸ b3))).mono ?_
          rintro e w9 ⟨rfl, h9⟩
          go_wp2_with fail
          go_ret
          rw [hA]
          exact ⟨by rw [hT.out, E1.out, E2.out]; simp [ba_nil], b3.trans (h9.mono (Nat.le_of_lt k3.lt))⟩
        · obtain ⟨⟨g0, g1⟩, g2, g3⟩ := h7'.out rfl
          go_wp2_with (go_at_call 33; refine (CA.out _).mono ?_; rintro e w9 ⟨rfl, rfl⟩)
          have C2 := fun w => refPutS T1 (IntKind.u64.wrap ak) ak 8 8 rfl (Inet.u64_wrap ak) (by omega) w
          refine (C2 _).mono ?_
          rintro e w3 ⟨rfl, h3⟩
          clear C2
          have k3 := k2.below h3 k2.lt
          have b3 := b2.trans (h3.mono (Nat.le_of_lt k2.lt))
          obtain ⟨y0, y1, y2, y3, y4, y5, y6, y7, y8, y9, y10, y11, y12⟩ := k3.cell
          dsimp only at y0 y1 y2 y3 y4 y5 y6 y7 y8 y9 y10 y11 y12
          have s3 : (T1 ++ ⟨(be (nat64 ak) 8).toArray⟩).size ≤ 24 := by rw [put_sz, be_length]; omega
          go_wp2_with (go_at_call 33; refine (CA.out _).mono ?_; rintro e w9 ⟨rfl, rfl⟩)
          have C3 := fun w => refPutS (T1 ++ ⟨(be (nat64 ak) 8).toArray⟩) (co * 16777216 + de) (co * 16777216 + de) 4 4 rfl (Head.nat64_of (co * 16777216 + de) (by omega)).1.symm (by omega) w
          refine (C3 _).mono ?_
          rintro e w4 ⟨rfl, h4⟩
          clear C3
          have k4 := k3.below h4 k3.lt
          have b4 := b3.trans (h4.mono (Nat.le_of_lt k3.lt))
          obtain ⟨y0, y1, y2, y3, y4, y5, y6, y7, y8, y9, y10, y11, y12⟩ := k4.cell
          dsimp only at y0 y1 y2 y3 y4 y5 y6 y7 y8 y9 y10 y11 y12
          have s4 : ((T1 ++ ⟨(be (nat64 ak) 8).toArray⟩) ++ ⟨(be (nat64 (co * 16777216 + de)) 4).toArray⟩).size ≤ 32 := by rw [put_sz, be_length]; omega
          go_wp2_with (go_at_call 33; refine (CA.out _).mono ?_; rintro e w9 ⟨rfl, rfl⟩)
          refine (CO.out _ (H0.out.below (hA ▸ b4))).mono ?_
          rintro e w9 ⟨rfl, h9⟩
          go_wp2_with fail
          go_ret
          rw [hA]
          exact ⟨by rw [hT.out, E1.out, E2.out]; simp, b4.trans (h9.mono (Nat.le_of_lt k4.lt))⟩
      · have z7' := h27.out rfl; subst z7'
        go_wp2_with (go_at_call 33; refine (CA.out _).mono ?_; rintro e w9 ⟨rfl, rfl⟩)
        have C2 := fun w => refPutS T1 (IntKind.u64.wrap ak) ak 8 8 rfl (Inet.u64_wrap ak) (by omega) w
        refine (C2 _).mono ?_
        rintro e w3 ⟨rfl, h3⟩
        clear C2
        have k3 := k2.below h3 k2.lt
        have b3 := b2.trans (h3.mono (Nat.le_of_lt k2.lt))
        obtain ⟨y0, y1, y2, y3, y4, y5, y6, y7, y8, y9, y10, y11, y12⟩ := k3.cell
        dsimp only at y0 y1 y2 y3 y4 y5 y6 y7 y8 y9 y10 y11 y12
        have s3 : (T1 ++ ⟨(be (nat64 ak) 8).toArray⟩).size ≤ 24 := by rw [put_sz, be_length]; omega
        go_wp2_with (go_at_call 33; refine (CA.out _).mono ?_; rintro e w9 ⟨rfl, rfl⟩)
        have C3 := fun w => refPutS (T1 ++ ⟨(be (nat64 ak) 8).toArray⟩) (IntKind.u64.wrap sv) sv 4 4 rfl (Inet.u64_wrap sv) (by omega) w
        refine (C3 _).mono ?_
        rintro e w4 ⟨rfl, h4⟩
        clear C3
        have k4 := k3.below h4 k3.lt
        have b4 := b3.trans (h4.mono (Nat.le_of_lt k3.lt))
        obtain ⟨y0, y1, y2, y3, y4, y5, y6, y7, y8, y9, y10, y11, y12⟩ := k4.cell
        dsimp only at y0 y1 y2 y3 y4 y5 y6 y7 y8 y9 y10 y11 y12
        have s4 : ((T1 ++ ⟨(be (nat64 ak) 8).toArray⟩) ++ ⟨(be (nat64 sv) 4).toArray⟩).size ≤ 32 := by rw [put_sz, be_length]; omega
        go_wp2_with (go_at_call 33; refine (CA.out _).mono ?_; rintro e w9 ⟨rfl, rfl⟩)
        refine (CO.out _ (H0.out.below (hA ▸ b4))).mono ?_
        rintro e w9 ⟨rfl, h9⟩
        go_wp2_with fail
        go_ret
        rw [hA]
        exact ⟨by rw [hT.out, E1.out, E2.out]; simp, b4.trans (h9.mono (Nat.le_of_lt k4.lt))⟩
end Go.Proofs.Ytkjojfcknfhkhaa.Pkt

namespace Go.Proofs.Ytkjojfcknfhkhaa.Pkt
open Go.ChangeShapes Go.WideShapes Go.ChangeAt Go.RowKit
open Go.Proofs.Ytkjojfcknfhkhaa.Opt (O OptsAt Fit)
set_option linter.unusedVariables false

/-- a packet's bytes on a path, or what is wrong -/
def put (p : K) (f t : Int) : ByteArray × Int :=
  if check p ≠ 0 then (⟨#[]⟩, check p) else (aheadText p (summed (aheadText p 0) p.data p.cover f t) ++ p.data, 0)

theorem extra_size (p : K) : (extra p).size ≤ 12 := by
  have h1 := extra1_size p
  have h2 := extra2_size p
  rw [extra_two, ByteArray.size_append]; omega
theorem ahead_size (p : K) (s : Int) : (aheadText p s).size ≤ 431 := by
  have h1 := Head.put_size (begins p s)
  have h2 := extra_size p
  have h3 := optText_size p.opts
  unfold aheadText
  rw [ByteArray.size_append, ByteArray.size_append]; omega
/-- what is known of a packet that has nothing wrong -/
theorem check_zero {p : K} (h : check p = 0) : Head.check (begins p 0) = 0 ∧ ranged p = true ∧ Opt.check p.opts = 0 ∧ p.data.size ≤ 200 ∧ spare p = false ∧ covers p.data.size p.cover = true := by
  unfold check at h
  split at h
  · rename_i h1; exact absurd h h1
  · rename_i h1
    split at h
    · cases h
    · rename_i h2
      split at h
      · rename_i h3; exact absurd h h3
      · rename_i h3
        split at h
        · cases h
        · rename_i h4
          split at h
          · cases h
          · rename_i h5
            split at h
            · cases h
            · rename_i h6
              exact ⟨by simpa using h1, by simpa using h2, by simpa using h3, by omega, by simpa using h5, by simpa using h6⟩
theorem ranged_reset {p : K} (h : ranged p = true) (hk : p.kind = 7) : (0 ≤ p.code ∧ p.code ≤ 255) ∧ 0 ≤ p.detail ∧ p.detail ≤ 16777215 := by
  unfold ranged told at h
  simp only [Bool.and_eq_true, Bool.or_eq_true, Bool.not_eq_true', Head.fits_iff, hk] at h
  obtain ⟨-, -, h⟩ := h
  simpa using h

theorem at_drewm {w w' : World} (h : Below w.drew.heap.size w.drew w') : Below w.heap.size w w' := ⟨h.os, h.tape, h.output, h.size, h.block⟩
theorem hi2 (u v : Value) : (Try.prog.info? 26).map (·.size) = some (#[u, v] : Array Value).size := by
  show _ = some 2
  kernel_rfl

set_option maxRecDepth 100000 in
set_option maxHeartbeats 4000000 in
theorem refPut10_any (p : K) (hl : Fit p.opts) (hd : p.data.size ≤ 4000) (f t : Int) (a : Option Addr) (cap : Nat) (w : World) (h : OptsAt w a p.opts) :
    Calls Try.prog 9 #[.agg #[.int .i64 p.kind, .bool p.long, .int .i64 p.src, .int .i64 p.dst, .int .i64 p.cc, .int .i64 p.cover, .int .i64 p.seq, .int .i64 p.ack, .int .i64 p.service, .int .i64 p.code, .int .i64 p.detail, .slice a p.opts.length cap, .string p.data], .agg #[.int .i64 f, .int .i64 t]] w
      fun e w' => e = .returned (.tuple #[.string (put p f t).1, .int .i64 (put p f t).2]) ∧ Below w.heap.size w w' := by
  have hP := Lib.hid (show put p f t = if check p ≠ 0 then (⟨#[]⟩, check p) else (aheadText p (summed (aheadText p 0) p.data p.cover f t) ++ p.data, 0) from rfl)
  have hz := Lib.hid (@check_zero p)
  have CC := Lib.hid (fun w (h : OptsAt w a p.opts) => Check_any p hl hd a cap w h)
  have CA := Lib.hid (fun s (h7 : ranged p = true) w (h : OptsAt w a p.opts) => refAhead_any p hl s (fun e => ranged_reset h7 e) a cap w h)
  have s0 := ahead_size p 0
  have sN := ahead_size p (summed (aheadText p 0) p.data p.cover f t)
  have CS := Lib.hid (fun w => refsum_any (aheadText p 0) p.data p.cover f t (by omega) hd w)
  have hb1 := ((Below.refl w.heap.size w).alloc (Nat.le_refl _) (.cells #[.int .i64 p.kind, .bool p.long, .int .i64 p.src, .int .i64 p.dst, .int .i64 p.cc, .int .i64 p.cover, .int .i64 p.seq, .int .i64 p.ack, .int .i64 p.service, .int .i64 p.code, .int .i64 p.detail, .slice a p.opts.length cap, .string p.data] 24)).alloc (by simp) (.cells #[.int .i64 f, .int .i64 t] 26)
  obtain ⟨W, hW⟩ : ∃ W, (w.alloc (.cells #[.int .i64 p.kind, .bool p.long, .int .i64 p.src, .int .i64 p.dst, .int .i64 p.cc, .int .i64 p.cover, .int .i64 p.seq, .int .i64 p.ack, .int .i64 p.service, .int .i64 p.code, .int .i64 p.detail, .slice a p.opts.length cap, .string p.data] 24)).alloc (.cells #[.int .i64 f, .int .i64 t] 26) = W := ⟨_, rfl⟩
  have hsz : W.heap.size = w.heap.size + 2 := by rw [← hW]; simp
  have hA : BoxK W w.heap.size p a cap := by
    rw [← hW]
    exact (Below.heap_alloc _ _ _ (by simp)).trans (heap_alloc_new w _)
  have hZ : W.heap[w.heap.size + 1]? = some (.cells #[.int .i64 f, .int .i64 t] 26 (0, 0)) := by
    rw [← hW]
    have := heap_alloc_new (w.alloc (.cells #[.int .i64 p.kind, .bool p.long, .int .i64 p.src, .int .i64 p.dst, .int .i64 p.cc, .int .i64 p.cover, .int .i64 p.seq, .int .i64 p.ack, .int .i64 p.service, .int .i64 p.code, .int .i64 p.detail, .slice a p.opts.length cap, .string p.data] 24)) (.cells #[.int .i64 f, .int .i64 t] 26)
    rwa [show (w.alloc (.cells #[.int .i64 p.kind, .bool p.long, .int .i64 p.src, .int .i64 p.dst, .int .i64 p.cc, .int .i64 p.cover, .int .i64 p.seq, .int .i64 p.ack, .int .i64 p.service, .int .i64 p.code, .int .i64 p.detail, .slice a p.opts.length cap, .string p.data] 24)).heap.size = w.heap.size + 1 by simp] at this
  have HB := Lib.hid (show Below w.heap.size w W by rw [← hW]; exact hb1)
  have keep : ∀ W', Below W.heap.size W W' → (W'.heap[w.heap.size]? = some (.cells #[.int .i64 p.kind, .bool p.long, .int .i64 p.src, .int .i64 p.dst, .int .i64 p.cc, .int .i64 p.cover, .int .i64 p.seq, .int .i64 p.ack, .int .i64 p.service, .int .i64 p.code, .int .i64 p.detail, .slice a p.opts.length cap, .string p.data] 24 (0, 0)) ∧ W'.cell? ⟨w.heap.size, 5, none⟩ = some (.int .i64 p.cover) ∧ W'.cell? ⟨w.heap.size, 12, none⟩ = some (.string p.data) ∧ W'.heap[w.heap.size + 1]? = some (.cells #[.int .i64 f, .int .i64 t] 26 (0, 0))) ∧ OptsAt W' a p.opts := by
    intro W' h'
    have hn := hA.below h' (by rw [hsz]; omega)
    exact ⟨⟨hn, hn.cell.2.2.2.2.2.1, hn.cell.2.2.2.2.2.2.2.2.2.2.2.2, (h'.block _ (by rw [hsz]; omega)).trans hZ⟩, h.below (HB.out.trans (h'.mono HB.out.size))⟩
  have KP := Lib.hid keep
  have O0 := Lib.hid (keep W (Below.refl _ _)).2
  have A0 := hA
  clear keep hA hZ hb1 h hl
  generalize put p f t = R at *
  generalize check p = C at *
  obtain ⟨N, hN⟩ : ∃ N, summed (aheadText p 0) p.data p.cover f t = N := ⟨_, rfl⟩
  rw [hN] at hP CS sN
  clear hN
  have CA0 := Lib.hid (CA.out 0)
  have CAN := Lib.hid (CA.out N)
  clear CA
  generalize aheadText p 0 = T0 at *
  generalize aheadText p N = TN at *
  generalize (Inet.covc T0 p.data p.cover).2 = ok at *
  go_enter Try.func9, Try.ntmps9
  go_wp2_with (refine wpList_load_row rfl 24 _ rfl w.heap.size rfl 24 _ _ _ A0 Try.underlying24 rfl (hi13 _ _ _ _ _ _ _ _ _ _ _ _ _) ?_)
  refine (CC.out _ O0.out).mono ?_
  rintro e w1 ⟨rfl, h1⟩
  have H1 := Lib.hid h1
  clear h1
  by_cases hc0 : C = 0
  case neg =>
    have hcb : (C != 0) = true := by simpa using hc0
    have HC := Lib.hid (hP.out.trans (if_pos hc0))
    go_wp2_with fail
    go_returns
    exact ⟨by rw [HC.out]; rfl, HB.out.trans (H1.out.mono HB.out.size)⟩
  subst hc0
  have hcb : ((0 : Int) != 0) = false := rfl
  obtain ⟨-, hrg, -, hd2, -, -⟩ := hz.out rfl
  have HC := Lib.hid (hP.out.trans (if_neg (fun h => h rfl)))
  have v1 := (KP.out _ H1.out).1
  clear hP hz
  go_wp2_with fail
  refine Step.start (S := (fun w' => w'.heap[w.heap.size]? = some (.cells #[.int .i64 p.kind, .bool p.long, .int .i64 p.src, .int .i64 p.dst, .int .i64 p.cc, .int .i64 p.cover, .int .i64 p.seq, .int .i64 p.ack, .int .i64 p.service, .int .i64 p.code, .int .i64 p.detail, .slice a p.opts.length cap, .string p.data] 24 (0, 0)) ∧ w'.cell? ⟨w.heap.size, 5, none⟩ = some (.int .i64 p.cover) ∧ w'.cell? ⟨w.heap.size, 12, none⟩ = some (.string p.data) ∧ w'.heap[w.heap.size + 1]? = some (.cells #[.int .i64 f, .int .i64 t] 26 (0, 0)))) (by kernel_rfl) (by (try dsimp only); first | exact v1 | exact v2 | exact v3 | exact v4) (fun hHeld => ?_)
  refine Step.load (i := 0) rfl (by kernel_rfl) (by kernel_rfl) (by kernel_rfl) w.heap.size #[.int .i64 p.kind, .bool p.long, .int .i64 p.src, .int .i64 p.dst, .int .i64 p.cc, .int .i64 p.cover, .int .i64 p.seq, .int .i64 p.ack, .int .i64 p.service, .int .i64 p.code, .int .i64 p.detail, .slice a p.opts.length cap, .string p.data] 24 (0, 0) _ (fun w hSw => hSw.1) Try.underlying24 rfl (hi13 _ _ _ _ _ _ _ _ _ _ _ _ _) (fun _ _ _ h => h) (by rfl) rfl (by assumption) ?_
  try simp only [Act.put, List.setIfInBounds_toArray, List.set_cons_zero, List.set_cons_succ]
  refine Step.take (i := 2) rfl (by kernel_rfl) (by kernel_rfl) (by kernel_rfl) (fun _ _ _ h => h) (by rfl) (by (intro w hSw; (try dsimp only at hSw); go_simp; try (with_reducible rfl))) (by assumption) ?_
  try simp only [Act.put, List.setIfInBounds_toArray, List.set_cons_zero, List.set_cons_succ]
  refine Step.take (i := 3) rfl (by kernel_rfl) (by kernel_rfl) (by kernel_rfl) (fun _ _ _ h => h) (by rfl) (by (intro w hSw; (try dsimp only at hSw); go_simp; try (with_reducible rfl))) (by assumption) ?_
  try simp only [Act.put, List.setIfInBounds_toArray, List.set_cons_zero, List.set_cons_succ]
  refine Step.take (i := 4) rfl (by kernel_rfl) (by kernel_rfl) (by kernel_rfl) (fun _ _ _ h => h) (by rfl) (by (intro w hSw; (try dsimp only at hSw); go_simp; try (with_reducible rfl))) (by assumption) ?_
  try simp only [Act.put, List.setIfInBounds_toArray, List.set_cons_zero, List.set_cons_succ]
  refine Step.take (i := 5) rfl (by kernel_rfl) (by kernel_rfl) (by kernel_rfl) (fun _ _ _ h => h) (by rfl) (by (intro w hSw; (try dsimp only at hSw); go_simp; try (with_reducible rfl))) (by assumption) ?_
  try simp only [Act.put, List.setIfInBounds_toArray, List.set_cons_zero, List.set_cons_succ]
  refine Step.load (i := 6) rfl (by kernel_rfl) (by kernel_rfl) (by kernel_rfl) (w.heap.size + 1) #[.int .i64 f, .int .i64 t] 26 (0, 0) _ (fun w hSw => hSw.2.2.2) Try.underlying26 rfl (hi2 _ _) (fun _ _ _ h => h) (by rfl) rfl (by assumption) ?_
  try simp only [Act.put, List.setIfInBounds_toArray, List.set_cons_zero, List.set_cons_succ]
  refine Step.call (i := 1) rfl (by kernel_rfl) (by rfl) (fun K hK => ?_)
  go_simp
  (go_at_call 25; refine (CA0.out hrg _ (by exact (KP.out _ (H1.out.trans ((at_drewm (Below.refl _ _)).mono H1.out.size))).2)).mono ?_; rintro e w2 ⟨rfl, h2⟩; have H2 := Lib.hid (H1.out.trans ((at_drewm h2).mono H1.out.size)); have v2 := (KP.out _ H2.out).1; clear h2)
  try (go_wp2_with fail)
  refine hK.out _ _ (by (try dsimp only); first | exact v1 | exact v2 | exact v3 | exact v4) (fun hHeld => ?_)
  clear hK K
  try simp only [Act.put, List.setIfInBounds_toArray, List.set_cons_zero, List.set_cons_succ]
  refine Step.call (i := 7) rfl (by kernel_rfl) (by rfl) (fun K hK => ?_)
  go_simp
  (go_at_call 24; refine (CS.out _).mono ?_; rintro e w3 ⟨rfl, h3⟩; have H3 := Lib.hid (H2.out.trans (h3.mono H2.out.size)); have v3 := (KP.out _ H3.out).1; clear h3)
  try (go_wp2_with fail)
  refine hK.out _ _ (by (try dsimp only); first | exact v1 | exact v2 | exact v3 | exact v4) (fun hHeld => ?_)
  clear hK K
  try simp only [Act.put, List.setIfInBounds_toArray, List.set_cons_zero, List.set_cons_succ]
  refine Step.take (i := 8) rfl (by kernel_rfl) (by kernel_rfl) (by kernel_rfl) (fun _ _ _ h => h) (by rfl) (by (intro w hSw; (try dsimp only at hSw); go_simp; try (with_reducible rfl))) (by assumption) ?_
  try simp only [Act.put, List.setIfInBounds_toArray, List.set_cons_zero, List.set_cons_succ]
  refine Step.take (i := 9) rfl (by kernel_rfl) (by kernel_rfl) (by kernel_rfl) (fun _ _ _ h => h) (by rfl) (by (intro w hSw; (try dsimp only at hSw); go_simp; try (with_reducible rfl))) (by assumption) ?_
  try simp only [Act.put, List.setIfInBounds_toArray, List.set_cons_zero, List.set_cons_succ]
  refine Step.take (i := 10) rfl (by kernel_rfl) (by kernel_rfl) (by kernel_rfl) (fun _ _ _ h => h) (by rfl) (by (intro w hSw; (try dsimp only at hSw); go_simp; try (with_reducible rfl))) (by assumption) ?_
  try simp only [Act.put, List.setIfInBounds_toArray, List.set_cons_zero, List.set_cons_succ]
  refine Step.take (i := 11) rfl (by kernel_rfl) (by kernel_rfl) (by kernel_rfl) (fun _ _ _ h => h) (by rfl) (by (intro w hSw; (try dsimp only at hSw); go_simp; try (with_reducible rfl))) (by assumption) ?_
  try simp only [Act.put, List.setIfInBounds_toArray, List.set_cons_zero, List.set_cons_succ]
  refine Step.take (i := 12) rfl (by kernel_rfl) (by kernel_rfl) (by kernel_rfl) (fun _ _ _ h => h) (by rfl) (by (intro w hSw; (try dsimp only at hSw); go_simp; try (with_reducible rfl))) (by assumption) ?_
  try simp only [Act.put, List.setIfInBounds_toArray, List.set_cons_zero, List.set_cons_succ]
  refine wpAnyH_done (by kernel_rfl) ?_ _
  have hno : ¬ (9223372036854775807 < TN.size + p.data.size) := by omega
  go_wp2_with fail
  refine Step.start (S := (fun w' => w'.heap[w.heap.size]? = some (.cells #[.int .i64 p.kind, .bool p.long, .int .i64 p.src, .int .i64 p.dst, .int .i64 p.cc, .int .i64 p.cover, .int .i64 p.seq, .int .i64 p.ack, .int .i64 p.service, .int .i64 p.code, .int .i64 p.detail, .slice a p.opts.length cap, .string p.data] 24 (0, 0)) ∧ w'.cell? ⟨w.heap.size, 5, none⟩ = some (.int .i64 p.cover) ∧ w'.cell? ⟨w.heap.size, 12, none⟩ = some (.string p.data) ∧ w'.heap[w.heap.size + 1]? = some (.cells #[.int .i64 f, .int .i64 t] 26 (0, 0)))) (by kernel_rfl) (by (try dsimp only); first | exact v1 | exact v2 | exact v3 | exact v4) (fun hHeld => ?_)
  refine Step.load (i := 0) rfl (by kernel_rfl) (by kernel_rfl) (by kernel_rfl) w.heap.size #[.int .i64 p.kind, .bool p.long, .int .i64 p.src, .int .i64 p.dst, .int .i64 p.cc, .int .i64 p.cover, .int .i64 p.seq, .int .i64 p.ack, .int .i64 p.service, .int .i64 p.code, .int .i64 p.detail, .slice a p.opts.length cap, .string p.data] 24 (0, 0) _ (fun w hSw => hSw.1) Try.underlying24 rfl (hi13 _ _ _ _ _ _ _ _ _ _ _ _ _) (fun _ _ _ h => h) (by rfl) rfl (by assumption) ?_
  try simp only [Act.put, List.setIfInBounds_toArray, List.set_cons_zero, List.set_cons_succ]
  refine Step.take (i := 1) rfl (by kernel_rfl) (by kernel_rfl) (by kernel_rfl) (fun _ _ _ h => h) (by rfl) (by (intro w hSw; (try dsimp only at hSw); go_simp; try (with_reducible rfl))) (by assumption) ?_
  try simp only [Act.put, List.setIfInBounds_toArray, List.set_cons_zero, List.set_cons_succ]
  refine Step.take (i := 3) rfl (by kernel_rfl) (by kernel_rfl) (by kernel_rfl) (fun _ _ _ h => h) (by rfl) (by (intro w hSw; (try dsimp only at hSw); go_simp; try (with_reducible rfl))) (by assumption) ?_
  try simp only [Act.put, List.setIfInBounds_toArray, List.set_cons_zero, List.set_cons_succ]
  refine Step.take (i := 4) rfl (by kernel_rfl) (by kernel_rfl) (by kernel_rfl) (fun _ _ _ h => h) (by rfl) (by (intro w hSw; (try dsimp only at hSw); go_simp; try (with_reducible rfl))) (by assumption) ?_
  try simp only [Act.put, List.setIfInBounds_toArray, List.set_cons_zero, List.set_cons_succ]
  refine Step.call (i := 2) rfl (by kernel_rfl) (by rfl) (fun K hK => ?_)
  go_simp
  (go_at_call 25; refine (CAN.out hrg _ (by exact (KP.out _ (H3.out.trans ((at_drewm (Below.refl _ _)).mono H3.out.size))).2)).mono ?_; rintro e w4 ⟨rfl, h4⟩; have H4 := Lib.hid (H3.out.trans ((at_drewm h4).mono H3.out.size)); have v4 := (KP.out _ H4.out).1; clear h4)
  try (go_wp2_with fail)
  refine hK.out _ _ (by (try dsimp only); first | exact v1 | exact v2 | exact v3 | exact v4) (fun hHeld => ?_)
  clear hK K
  try simp only [Act.put, List.setIfInBounds_toArray, List.set_cons_zero, List.set_cons_succ]
  refine Step.take (i := 5) rfl (by kernel_rfl) (by kernel_rfl) (by kernel_rfl) (fun _ _ _ h => h) (by rfl) (by (intro w hSw; (try dsimp only at hSw); go_simp; try (with_reducible rfl))) (by assumption) ?_
  try simp only [Act.put, List.setIfInBounds_toArray, List.set_cons_zero, List.set_cons_succ]
  refine Step.take (i := 6) rfl (by kernel_rfl) (by kernel_rfl) (by kernel_rfl) (fun _ _ _ h => h) (by rfl) (by (intro w hSw; (try dsimp only at hSw); go_simp; try (with_reducible rfl))) (by assumption) ?_
  try simp only [Act.put, List.setIfInBounds_toArray, List.set_cons_zero, List.set_cons_succ]
  refine Step.take (i := 7) rfl (by kernel_rfl) (by kernel_rfl) (by kernel_rfl) (fun _ _ _ h => h) (by rfl) (by (intro w hSw; (try dsimp only at hSw); go_simp; try (with_reducible rfl))) (by assumption) ?_
  try simp only [Act.put, List.setIfInBounds_toArray, List.set_cons_zero, List.set_cons_succ]
  refine wpAnyH_done (by kernel_rfl) ?_ _
  go_wp2_with fail
  go_returns
  exact ⟨by rw [HC.out]; rfl, HB.out.trans (H4.out.mono HB.out.size)⟩
end Go.Proofs.Ytkjojfcknfhkhaa.Pkt
