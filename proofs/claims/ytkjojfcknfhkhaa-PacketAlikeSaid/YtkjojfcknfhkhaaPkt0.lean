/- Plain: what the chapter says of packets, nothing of any program. -/
import Derived.Test.YtkjojfcknfhkhaaHead0
import Derived.Test.YtkjojfcknfhkhaaOpt6
import Derived.Test.YtkjojfcknfhkhaaInet0
namespace Go.Proofs.Ytkjojfcknfhkhaa.Pkt
open Go.Proofs.Ytkjojfcknfhkhaa.Oct (be num be_length nat64)
set_option linter.unusedVariables false

/-- a packet -/
structure K where
  kind : Int
  long : Bool
  src : Int
  dst : Int
  cc : Int
  cover : Int
  seq : Int
  ack : Int
  service : Int
  code : Int
  detail : Int
  opts : List Opt.O
  data : ByteArray

def K.none : K := ⟨0, false, 0, 0, 0, 0, 0, 0, 0, 0, 0, [], ⟨#[]⟩⟩

/-- how many words stand ahead of the data -/
def need (p : K) : Int := (Head.sizeOf p.kind p.long + (Opt.sizes p.opts : Int) + 3) / 4
/-- its beginning, with a sum -/
def begins (p : K) (sum : Int) : Head.B := ⟨p.src, p.dst, min (need p) 255, p.cc, p.cover, sum, p.kind, p.long, p.seq⟩

def acked (p : K) : Bool := !Head.acks p.kind || Head.fits p.ack (Head.seqMost p.long)
def served (p : K) : Bool := !decide (p.kind < 2) || Head.fits p.service 4294967295
def told (p : K) : Bool := !decide (p.kind = 7) || (Head.fits p.code 255 && Head.fits p.detail 16777215)
def ranged (p : K) : Bool := acked p && (served p && told p)
/-- is a field that the kind has not not zero -/
def spare (p : K) : Bool :=
  (!Head.acks p.kind && !decide (p.ack = 0)) || ((decide (1 < p.kind) && !decide (p.service = 0)) || ((!decide (p.kind = 7) && (!decide (p.code = 0) || !decide (p.detail = 0))) || (!Head.bears p.kind && !decide (p.data.size = 0))))
/-- is there as much data as is covered -/
def covers (n : Nat) (c : Int) : Bool := decide (0 ≤ c ∧ c ≤ 15) && (decide (c = 0) || decide (4 * (c - 1) ≤ (n : Int)))

def check (p : K) : Int :=
  if Head.check (begins p 0) ≠ 0 then Head.check (begins p 0)
  else if ranged p = false then 3
  else if Opt.check p.opts ≠ 0 then Opt.check p.opts
  else if 200 < p.data.size then 11
  else if spare p = true then 4
  else if covers p.data.size p.cover = false then 3
  else 0

/-- options as bytes, and bytes 0 behind -/
def pad (l : List Opt.O) : Nat := (4 - Opt.sizes l % 4) % 4
def optText (l : List Opt.O) : ByteArray := if Opt.check l = 0 then Opt.bytesOf l ++ Opt.zeros (pad l) else ⟨#[]⟩
theorem optText_mod {l : List Opt.O} (h : Opt.check l = 0) : (optText l).size = Opt.sizes l + pad l ∧ (optText l).size % 4 = 0 := by
  obtain ⟨hw, -⟩ := Opt.check_wrongs h
  unfold optText
  rw [if_pos h, ByteArray.size_append, Opt.bytesOf_size hw, Opt.zeros_size]
  unfold pad
  exact ⟨rfl, by omega⟩

theorem need_mid (p : K) (h : Opt.Fit p.opts) : 0 ≤ need p ∧ need p ≤ 2251508 := by
  have h1 := Head.sizeOf_mid p.kind p.long
  have h2 := h.sizes
  unfold need
  omega
end Go.Proofs.Ytkjojfcknfhkhaa.Pkt
