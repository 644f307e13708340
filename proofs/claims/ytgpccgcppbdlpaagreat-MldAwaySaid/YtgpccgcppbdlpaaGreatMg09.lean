/-
  Texts joined: Refb, IpA, IpW, PureEth, PureIp, IpP, PureTk.
-/
import Derived.Test.YtgpccgcppbdlpaaGreatMg06
import Derived.Test.YtgpccgcppbdlpaaGreatMg08
import Derived.Test.YtgpccgcppbdlpaaGreatMg01
import Derived.Test.YtgpccgcppbdlpaaGreatMg07
import Derived.Deep.RegionHeld3
import Derived.Deep.Cut
import Derived.Test.YtgpccgcppbdlpaaGreatMg00
/-
  The contracts of the document's own answers of layer 2, and of the statements' helpers there.
-/
namespace Go.Proofs.YtgpccgcppbdlpaaGreat
open Go.RowKit
set_option linter.unusedVariables false

theorem rfold_any (n : Nat) (hn : n ≤ 18446744073709551615) (w : World) : Calls Tryz.prog 89 #[.int .u64 n] w fun e w' => e = .returned (.int .i64 (foldN n)) ∧ w = w' := by
  rcases Nat.eq_zero_or_pos n with rfl | hp
  · go_enter Tryz.func89, Tryz.ntmps89
    go_wp2
    go_ret
    exact ⟨rfl, rfl⟩
  · have h0 : ((n : Int) == 0) = false := by simp; omega
    have HF := Lib.hid (foldN_pos hp)
    go_enter Tryz.func89, Tryz.ntmps89
    go_wp2
    go_ret
    exact ⟨ret_int (by rw [HF.out]; omega), rfl⟩

theorem run_cat' {P : Program} (x y : List UInt8) (h : x.length + y.length ≤ 9223372036854775807) (w : World) : (Op.stringOp .add (Str x) (Str y)).run P w = .ok (.string (Str (x ++ y))) w := run_cat x y h w
theorem even_round (l : List UInt8) (k : Nat) (hev : l.length % 2 = 0) (hlt : 2 * k < l.length) : wsum (l.take (2 * (k + 1))) = wsum (l.take (2 * k)) + num ((l.drop (2 * k)).take 2) := by
  have h1 : 2 * k + 1 < l.length := by omega
  have e1 : l.take (2 * (k + 1)) = l.take (2 * k) ++ [l[2 * k], l[2 * k + 1]] := by
    rw [show 2 * (k + 1) = 2 * k + 1 + 1 by omega, List.take_succ_eq_append_getElem h1, List.take_succ_eq_append_getElem hlt, List.append_assoc]; rfl
  have e2 : (l.drop (2 * k)).take 2 = [l[2 * k], l[2 * k + 1]] := by
    rw [List.drop_eq_getElem_cons hlt, List.drop_eq_getElem_cons h1]; rfl
  have b1 := l[2 * k].toNat_lt
  have b2 := l[2 * k + 1].toNat_lt
  rw [e1, e2, wsum_two_snoc _ _ _ (by rw [List.length_take]; omega)]
  simp [num]
  omega
theorem wsum_take_le (l : List UInt8) (m : Nat) : wsum (l.take m) ≤ 65280 * l.length := by
  have := wsum_le (l.take m)
  rw [List.length_take] at this
  omega

theorem Str_extract2 (l : List UInt8) (a b : Nat) : (Str l).extract a b = Str ((l.drop a).take (b - a)) := by
  apply ByteArray.ext; simp [Str]

/-- The loop of the document's Sum, from its head on. -/
def padL (l : List UInt8) : List UInt8 := if l.length % 2 = 1 then l ++ [0] else l
theorem padL_even (l : List UInt8) : (padL l).length % 2 = 0 := by
  unfold padL; split
  · simp; omega
  · omega
theorem padL_len (l : List UInt8) : (padL l).length ≤ l.length + 1 := by
  unfold padL; split
  · simp
  · omega
theorem wsum_padL (l : List UInt8) : wsum (padL l) = wsum l := by
  unfold padL; split
  · exact wsum_pad l
  · rfl

set_option maxHeartbeats 1000000 in
theorem rsum_any (l0 : List UInt8) (hl0 : l0.length ≤ 1048576) (w : World) :
    Calls Tryz.prog 52 #[.string (Str l0)] w fun e w' => e = .returned (.int .i64 (foldN (wsum l0))) ∧ w = w' := by
  have hsz0 : (Str l0).size = l0.length := Str_size l0
  have Hw := Lib.hid (wsum_padL l0)
  have hev := padL_even l0
  have hlen := padL_len l0
  have hpad : ∃ o : Bool, (((l0.length : Int) % 2) == 1) = o ∧ (o = true → padL l0 = l0 ++ [0]) ∧ (o = false → padL l0 = l0) := by
    unfold padL
    by_cases h : l0.length % 2 = 1
    · exact ⟨true, by simp; omega, (fun _ => by rw [if_pos h]), fun h => by cases h⟩
    · exact ⟨false, by simp; omega, (fun h => by cases h), fun _ => by rw [if_neg h]⟩
  obtain ⟨o, ho, h1, h2⟩ := hpad
  generalize hl : padL l0 = l at hev hlen h1 h2 Hw
  have Hl := Lib.hid hl; clear hl
  have hsz : (Str l).size = l.length := Str_size l
  have hrun := run_cat' (P := Tryz.prog) l0 [0] (by simp; omega)
  rw [show Str [0] = (⟨#[0]⟩ : ByteArray) from rfl] at hrun
  have Hev := Lib.hid hev; clear hev
  have H2 := Lib.hid h2; clear h2
  have H1 := Lib.hid h1; clear h1
  cases o with
  | true =>
    rw [← H1.out rfl] at hrun
    go_enter Tryz.func52, Tryz.ntmps52
    go_wp2_with fail
    go_loop [3, 4] (fun n i => ∃ k : Nat, 2 * k ≤ l.length ∧ i = .int .i64 (2 * (k : Int)) ∧ n = .int .u64 (wsum (l.take (2 * k)))) (fun _ i => l.length - (intOf i).toNat)
    case atStart => exact ⟨0, by omega, rfl, rfl⟩
    case round =>
      obtain ⟨k, hk, rfl, rfl⟩ := hrel
      have hle := wsum_take_le l (2 * k)
      have hle2 := wsum_take_le l (2 * (k + 1))
      by_cases hlt : 2 * k < l.length
      · have hlt' : (2 : Int) * (k : Int) + 2 ≤ (l.length : Int) := by have := Hev.out; omega
        have Hr := Lib.hid (even_round l k Hev.out hlt)
        have Hx := Lib.hid (show ((Str l).extract (2 * k) (2 * k + 2)).data.toList = (l.drop (2 * k)).take 2 by rw [Str_extract2, show 2 * k + 2 - 2 * k = 2 by omega]; rfl)
        generalize hx : wsum (l.take (2 * k)) = x at hle Hr ⊢
        generalize hy : wsum (l.take (2 * (k + 1))) = y at hle2 Hr
        have Hxx := Lib.hid hx; clear hx
        have Hy := Lib.hid hy; clear hy
        generalize hz : num ((l.drop (2 * k)).take 2) = z at Hr
        have hzle : z ≤ y := by have := Hr.out; omega
        have Hz := Lib.hid hz; clear hz
        go_wp2_with fail
        refine (rnum_any _ (by unfold maxLen; simp; omega) _).mono ?_
        rintro e w1 ⟨rfl, rfl⟩
        rw [Hx.out, Hz.out]
        have hsum : x + z ≤ 18446744073709551615 := by have := Hr.out; omega
        go_wp2_with fail
        go_round
        case rel => exact ⟨k + 1, by omega, by go_num, by rw [Hy.out, Hr.out]; go_num⟩
        case measure => simp [intOf]; omega
      · have hkl : 2 * k = l.length := by omega
        have Hk := Lib.hid (show foldN (wsum (l.take (2 * k))) = foldN (wsum l0) by rw [hkl, List.take_length, Hw.out])
        generalize hx : wsum (l.take (2 * k)) = x at hle Hk ⊢
        have Hx := Lib.hid hx; clear hx hkl
        go_wp2_with fail
        refine (rfold_any x (by omega) _).mono ?_
        rintro e w1 ⟨rfl, rfl⟩
        rw [Hk.out]
        go_wp2_with fail
        go_ret
        exact ⟨rfl, rfl⟩
  | false =>
    obtain rfl : l = l0 := H2.out rfl
    go_enter Tryz.func52, Tryz.ntmps52
    go_wp2_with fail
    go_loop [3, 4] (fun n i => ∃ k : Nat, 2 * k ≤ l.length ∧ i = .int .i64 (2 * (k : Int)) ∧ n = .int .u64 (wsum (l.take (2 * k)))) (fun _ i => l.length - (intOf i).toNat)
    case atStart => exact ⟨0, by omega, rfl, rfl⟩
    case round =>
      obtain ⟨k, hk, rfl, rfl⟩ := hrel
      have hle := wsum_take_le l (2 * k)
      have hle2 := wsum_take_le l (2 * (k + 1))
      by_cases hlt : 2 * k < l.length
      · have hlt' : (2 : Int) * (k : Int) + 2 ≤ (l.length : Int) := by have := Hev.out; omega
        have Hr := Lib.hid (even_round l k Hev.out hlt)
        have Hx := Lib.hid (show ((Str l).extract (2 * k) (2 * k + 2)).data.toList = (l.drop (2 * k)).take 2 by rw [Str_extract2, show 2 * k + 2 - 2 * k = 2 by omega]; rfl)
        generalize hx : wsum (l.take (2 * k)) = x at hle Hr ⊢
        generalize hy : wsum (l.take (2 * (k + 1))) = y at hle2 Hr
        have Hxx := Lib.hid hx; clear hx
        have Hy := Lib.hid hy; clear hy
        generalize hz : num ((l.drop (2 * k)).take 2) = z at Hr
        have hzle : z ≤ y := by have := Hr.out; omega
        have Hz := Lib.hid hz; clear hz
        go_wp2_with fail
        refine (rnum_any _ (by unfold maxLen; simp; omega) _).mono ?_
        rintro e w1 ⟨rfl, rfl⟩
        rw [Hx.out, Hz.out]
        have hsum : x + z ≤ 18446744073709551615 := by have := Hr.out; omega
        go_wp2_with fail
        go_round
        case rel => exact ⟨k + 1, by omega, by go_num, by rw [Hy.out, Hr.out]; go_num⟩
        case measure => simp [intOf]; omega
      · have hkl : 2 * k = l.length := by omega
        have Hk := Lib.hid (show foldN (wsum (l.take (2 * k))) = foldN (wsum l) by rw [hkl, List.take_length])
        generalize hx : wsum (l.take (2 * k)) = x at hle Hk ⊢
        have Hx := Lib.hid hx; clear hx hkl
        go_wp2_with fail
        refine (rfold_any x (by omega) _).mono ?_
        rintro e w1 ⟨rfl, rfl⟩
        rw [Hk.out]
        go_wp2_with fail
        go_ret
        exact ⟨rfl, rfl⟩

/-- A literal slice, however often order was drawn since. -/
theorem own_lit (w : World) (cs : Array Value) (e : TypeId) (n g d : Nat) (hg : g = w.heap.size) (hm : n ≤ 1000000) (hs : cs.size = n) : ((w.alloc (.cells cs e)).drewN d).ownsRow 0 e 1 (.slice (some ⟨g, 0, none⟩) n n) n cs.toList := by
  subst hg
  exact World.ownsRow_lit w cs n (Nat.zero_le _) (by unfold maxLen; omega) (by omega)
theorem own_lit0 (w : World) (cs : Array Value) (e : TypeId) (n g : Nat) (hg : g = w.heap.size) (hm : n ≤ 1000000) (hs : cs.size = n) : (w.alloc (.cells cs e)).ownsRow 0 e 1 (.slice (some ⟨g, 0, none⟩) n n) n cs.toList := own_lit w cs e n g 0 hg hm hs

/-- Two bytes of a number. -/
theorem rput_two (n : Nat) (hn : n ≤ 18446744073709551615) (w : World) : Calls Tryz.prog 87 #[.int .u64 n, .int .i64 2] w fun e w' => e = .returned (.string (Str (putL n 2))) ∧ Below w.heap.size w w' := rput_any n hn 2 w
theorem rput_four (n : Nat) (hn : n ≤ 18446744073709551615) (w : World) : Calls Tryz.prog 87 #[.int .u64 n, .int .i64 4] w fun e w' => e = .returned (.string (Str (putL n 4))) ∧ Below w.heap.size w w' := rput_any n hn 4 w
theorem rput_one (n : Nat) (hn : n ≤ 18446744073709551615) (w : World) : Calls Tryz.prog 87 #[.int .u64 n, .int .i64 1] w fun e w' => e = .returned (.string (Str (putL n 1))) ∧ Below w.heap.size w w' := rput_any n hn 1 w
end Go.Proofs.YtgpccgcppbdlpaaGreat

/-
  The document's own Good of a packet of IPv4, its numbers as bytes, and its bytes.
-/
namespace Go.Proofs.YtgpccgcppbdlpaaGreat
open Go.RowKit
set_option linter.unusedVariables false
attribute [local go_sem ↓] ld_addr st_addr
attribute [local go_sem] ldr_addr str_addr

def Ip.nums (p : Ip) : Bool := decide (0 ≤ p.tos ∧ p.tos ≤ 255 ∧ 0 ≤ p.ttl ∧ p.ttl ≤ 255 ∧ 0 ≤ p.pro ∧ p.pro ≤ 255 ∧ 0 ≤ p.id ∧ p.id ≤ 65535)
def Ip.good (p : Ip) : Bool := p.nums && (!p.f6 && (!p.t6 && (goodV p.f6 p.fr && (goodV p.t6 p.to && decide (p.bd.length ≤ 1400)))))

end Go.Proofs.YtgpccgcppbdlpaaGreat

/-
  The document's own bytes of a packet of IPv4.
-/
namespace Go.Proofs.YtgpccgcppbdlpaaGreat
open Go.RowKit
set_option linter.unusedVariables false
attribute [local go_sem ↓] ld_addr st_addr
attribute [local go_sem] ldr_addr str_addr

def optL (al : Bool) : List UInt8 := if al then [148, 4, 0, 0] else []
/-- The header ahead of its check, and behind it. -/
def Ip.ha (p : Ip) : List UInt8 := putL (69 + (optL p.al).length / 4) 1 ++ (putL p.tos.toNat 1 ++ (putL (20 + (optL p.al).length + p.bd.length) 2 ++ (putL p.id.toNat 2 ++ (putL 0 2 ++ (putL p.ttl.toNat 1 ++ putL p.pro.toNat 1)))))
def Ip.hb (p : Ip) : List UInt8 := p.fr.take 4 ++ (p.to.take 4 ++ optL p.al)
end Go.Proofs.YtgpccgcppbdlpaaGreat

/-
  Frames of Ethernet as plain data: their bytes, which are good, what bytes are. Nothing of the program.
-/
namespace Go.Proofs.YtgpccgcppbdlpaaGreat
open Go.RowKit
set_option linter.unusedVariables false

def goodTyV (k : Int) : Bool := decide (1536 ≤ k ∧ k ≤ 65535 ∧ k ≠ 33024)
def goodTgV (tg : Bool) (v p : Int) : Bool := if tg then decide (0 ≤ v ∧ v ≤ 4094 ∧ 0 ≤ p ∧ p ≤ 7) else decide (v = 0 ∧ p = 0)
def goodEV (tg : Bool) (v p k : Int) (n : Nat) : Bool := goodTyV k && (goodTgV tg v p && decide (n ≤ 1500))
theorem two_of {x : List UInt8} (h : x.length = 2) : ∃ a b, x = [a, b] := by
  match x, h with
  | [a, b], _ => exact ⟨a, b, rfl⟩
theorem num_two (a b : UInt8) : num [a, b] = a.toNat * 256 + b.toNat := by
  have h1 := a.toNat_lt; have h2 := b.toNat_lt
  simp [num]; omega
theorem num2_lt {x : List UInt8} (h : x.length = 2) : num x < 65536 := by
  obtain ⟨a, b, rfl⟩ := two_of h
  have h1 := a.toNat_lt; have h2 := b.toNat_lt
  rw [num_two]; omega
theorem num2_putL (n : Nat) (h : n < 65536) : num (putL n 2) = n := by
  rw [num_putL n 2 (by omega)]; omega

theorem take_app {x y : List UInt8} {n : Nat} (h : x.length = n) : (x ++ y).take n = x := by subst h; simp
end Go.Proofs.YtgpccgcppbdlpaaGreat

/-
  Packets of IPv4 as plain data: options, what is wrong of bytes, their parts, one hop further. Nothing of the program.
-/
namespace Go.Proofs.YtgpccgcppbdlpaaGreat
open Go.RowKit
set_option linter.unusedVariables false

/-- A byte, and a word. -/
def by8 (s : List UInt8) (i : Nat) : Nat := (s.getD i 0).toNat
def wd (s : List UInt8) (i : Nat) : Nat := num ((s.drop i).take 2)
theorem by8_get (s : List UInt8) (i : Nat) (h : i < s.length) : by8 s i = (s[i]).toNat := by
  unfold by8; rw [List.getD_eq_getElem?_getD, List.getElem?_eq_getElem h]; rfl
theorem by8_lt (s : List UInt8) (i : Nat) : by8 s i < 256 := (s.getD i 0).toNat_lt
theorem wd_eq (s : List UInt8) (i : Nat) (h : i + 2 ≤ s.length) : wd s i = 256 * by8 s i + by8 s (i + 1) := by
  unfold wd
  rw [List.drop_eq_getElem_cons (show i < s.length by omega), List.drop_eq_getElem_cons (show i + 1 < s.length by omega)]
  rw [by8_get s i (by omega), by8_get s (i + 1) (by omega)]
  simp only [List.take_succ_cons, List.take_zero]
  rw [num_two]; omega
theorem wd_lt (s : List UInt8) (i : Nat) (h : i + 2 ≤ s.length) : wd s i < 65536 := by
  rw [wd_eq s i h]; have := by8_lt s i; have := by8_lt s (i + 1); omega
/-- Sums. -/
theorem check_good (x : Nat) : foldN (x + (65535 - foldN x)) = 65535 := by
  rcases Nat.eq_zero_or_pos x with rfl | hp
  · rfl
  · have h := foldN_pos hp
    obtain ⟨k, hk⟩ : ∃ k, x + (65535 - foldN x) = 65535 + 65535 * k := ⟨(x - 1) / 65535, by rw [h]; omega⟩
    rw [hk, foldN_more _ _ (by omega)]; rfl
theorem wsum_put2 (c : Nat) (h : c ≤ 65535) : wsum (putL c 2) = c := by
  simp only [putL]
  rw [wsum_two, UInt8.toNat_ofNat', UInt8.toNat_ofNat']
  simp
  omega
end Go.Proofs.YtgpccgcppbdlpaaGreat

/-
  What bytes are as a packet: plain facts. What is read of a packet's own bytes; what is read of bytes one hop further.
-/
namespace Go.Proofs.YtgpccgcppbdlpaaGreat
open Go.RowKit
set_option linter.unusedVariables false

theorem putL_one (n : Nat) : putL n 1 = [UInt8.ofNat n] := by simp [putL]
theorem putL_tw (n : Nat) : putL n 2 = [UInt8.ofNat (n / 256), UInt8.ofNat n] := by simp [putL]
theorem ofNat_small {n : Nat} (h : n < 256) : (UInt8.ofNat n).toNat = n := by rw [UInt8.toNat_ofNat']; omega

end Go.Proofs.YtgpccgcppbdlpaaGreat

/-
  Talks of IGMP as bytes, plain: what bytes say, a talk's bytes, and that it comes back from them.
-/
namespace Go.Proofs.YtgpccgcppbdlpaaGreat
open Go.RowKit
set_option linter.unusedVariables false

def zeroA : AD := (false, List.replicate 16 0)
def zeroT : TK := ⟨false, 0, 0, 0, zeroA, false, 0, 0, [], []⟩
def fourL (s : List UInt8) (i : Nat) : AD := (false, readV ((s.drop i).take 4))
def srcsL (s : List UInt8) (i n : Nat) : List AD := (List.range n).map fun k => fourL s (i + 4 * k)
def srcsE (s : List UInt8) (i n : Nat) : Int := if 64 < n then 6 else if s.length < i + 4 * n then 3 else 0
def rec1 (s : List UInt8) (i : Nat) : RC := ⟨by8 s i, fourL s (i + 4), srcsL s (i + 8) (wd s (i + 2))⟩
def recN (s : List UInt8) (i : Nat) : Nat := i + 8 + 4 * wd s (i + 2) + 4 * by8 s (i + 1)
def rcOk (r : RC) : Bool := decide (1 ≤ r.kind ∧ r.kind ≤ 6) && grp8 r.g
def recL (s : List UInt8) : Nat → Nat → List RC × Int
  | _, 0 => ([], 0)
  | i, n + 1 =>
    if s.length < i + 8 then ([], 3)
    else if srcsE s (i + 8) (wd s (i + 2)) ≠ 0 then ([], srcsE s (i + 8) (wd s (i + 2)))
    else if s.length < recN s i then ([], 3)
    else if (recL s (recN s i) n).2 ≠ 0 then ([], (recL s (recN s i) n).2)
    else (if rcOk (rec1 s i) then rec1 s i :: (recL s (recN s i) n).1 else (recL s (recN s i) n).1, 0)
def qry (s : List UInt8) : TK × Int :=
  if 8 < s.length ∧ s.length < 12 then (zeroT, 2)
  else if fourL s 4 ≠ zeroA ∧ grp8 (fourL s 4) = false then (zeroT, 2)
  else if s.length = 8 then
    if by8 s 1 = 0 then if fourL s 4 ≠ zeroA then (zeroT, 2) else (⟨false, 1, 1, 0, fourL s 4, false, 0, 0, [], []⟩, 0)
    else (⟨false, 2, 1, by8 s 1, fourL s 4, false, 0, 0, [], []⟩, 0)
  else if fourL s 4 = zeroA ∧ 0 < wd s 10 then (zeroT, 2)
  else if srcsE s 12 (wd s 10) ≠ 0 then (zeroT, srcsE s 12 (wd s 10))
  else (⟨false, 3, 1, valN (by8 s 1) 16, fourL s 4, decide (by8 s 8 / 8 % 2 = 1), (by8 s 8 % 8 : Nat), valN (by8 s 9) 16, srcsL s 12 (wd s 10), []⟩, 0)
def readT (s : List UInt8) : TK × Int :=
  if s.length < 8 then (zeroT, 3)
  else if foldN (wsum s) ≠ 65535 then (zeroT, 4)
  else if by8 s 0 = 17 then qry s
  else if by8 s 0 = 34 then
    if 64 < wd s 6 then (zeroT, 6)
    else if (recL s 8 (wd s 6)).2 ≠ 0 then (zeroT, (recL s 8 (wd s 6)).2)
    else (⟨false, 3, 2, 0, zeroA, false, 0, 0, [], (recL s 8 (wd s 6)).1⟩, 0)
  else if by8 s 0 = 18 ∨ by8 s 0 = 22 ∨ by8 s 0 = 23 then
    if grp8 (fourL s 4) = false then (zeroT, 2)
    else (⟨false, if by8 s 0 = 18 then 1 else 2, if by8 s 0 = 23 then 3 else 2, 0, fourL s 4, false, 0, 0, [], []⟩, 0)
  else (zeroT, 5)

/-- A talk's bytes. -/
def recB (r : RC) : List UInt8 := putL r.kind.toNat 1 ++ (0 :: (putL r.src.length 2 ++ (adB r.g ++ listL r.src)))
def flagT (t : TK) : Nat := if t.quiet then t.rob.toNat + 8 else t.rob.toNat
theorem by8_at (pre x : List UInt8) (j : Nat) : by8 (pre ++ x) (pre.length + j) = by8 x j := by
  unfold by8
  rw [List.getD_eq_getElem?_getD, List.getD_eq_getElem?_getD, List.getElem?_append_right (by omega), Nat.add_sub_cancel_left]
theorem wd_at (pre x : List UInt8) (j : Nat) : wd (pre ++ x) (pre.length + j) = wd x j := by
  unfold wd
  rw [← List.drop_drop, List.drop_left]
theorem recB_eq (r : RC) : recB r = [UInt8.ofNat r.kind.toNat, 0, UInt8.ofNat (r.src.length / 256), UInt8.ofNat r.src.length] ++ (adB r.g ++ listL r.src) := by
  unfold recB
  rw [putL_one, putL_tw]
  simp
def TK.ok (t : TK) : Prop := adOk t.g ∧ (∀ a ∈ t.src, adOk a) ∧ ∀ r ∈ t.rcs, adOk r.g ∧ ∀ a ∈ r.src, adOk a
theorem zeroA_ok : adOk zeroA := rfl
theorem exactN_parts {n : Int} {u m : Nat} (h : exactN n u m = true) : 0 ≤ n ∧ (valN (codeN n u m) u : Int) = n := by
  unfold exactN at h
  rw [decide_eq_true_eq] at h
  exact h
end Go.Proofs.YtgpccgcppbdlpaaGreat

