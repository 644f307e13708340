/-
  Texts joined: MdY, TlD, MkD, PureIp6, IqP, EthA, EthB, EthC, OctRd, EthD.
-/
import Derived.Test.YtlbdehegknehiaaGreatMg13
import Derived.Test.YtlbdehegknehiaaGreatMdJ
import Derived.Deep.RegionHeld3
import Derived.Deep.Cut
import Derived.BigQuiet
import Derived.Test.YtlbdehegknehiaaGreatMg00
import Derived.Test.YtlbdehegknehiaaGreatMg10
import Derived.Test.YtlbdehegknehiaaGreatMg07
import Derived.Test.YtlbdehegknehiaaGreatEth
import Derived.Test.YtlbdehegknehiaaGreatMg06
import Derived.Test.YtlbdehegknehiaaGreatMg02
import Derived.WalkLawsBesides
import Derived.Lib.LazyBuf
import Derived.Deep.RegionLaw
import Derived.Laws.CopyOwn
/- A part of the proof. -/
namespace Go.Proofs.YtlbdehegknehiaaGreat
open Go.RowKit
set_option linter.unusedVariables false
set_option linter.unusedSimpArgs false
attribute [local go_sem ↓] ld_addr st_addr bld_addr ld_rec st_rec
attribute [local go_sem] ldr_addr str_addr ldr_rec str_rec
end Go.Proofs.YtlbdehegknehiaaGreat

/- A part of the proof. -/
namespace Go.Proofs.YtlbdehegknehiaaGreat
open Go.RowKit
set_option linter.unusedVariables false
set_option linter.unusedSimpArgs false
def ReadQ (w : World) (s : List UInt8) (x : Ending) (w' : World) : Prop := ∃ us ur, x = .returned (.tuple #[.agg (tkC (readT s).1 us ur).toArray, .int .i64 (readT s).2]) ∧ Below w.heap.size w w' ∧ adOk (readT s).1.g ∧ Ads w' us (readT s).1.src ∧ Rcs w' ur (readT s).1.rcs
theorem ReadP.q {w w' : World} {s : List UInt8} {x : Ending} (h : ReadP w s x w') : ReadQ w s x w' := by
  obtain ⟨us, ur, h1, h2, h3, h4, h5⟩ := h
  exact ⟨us, ur, h1, h2, h3, h4.1, h5.rcs⟩
theorem Rcs.ok {w : World} {v : Value} {l : List RC} (h : Rcs w v l) : ∀ r ∈ l, adOk r.g ∧ ∀ a ∈ r.src, adOk a := by
  intro r hr
  obtain ⟨i, hi, rfl⟩ := List.mem_iff_getElem.1 hr
  obtain ⟨b, o, cap, _, _, _, h3⟩ := h.parts (fun e => by rw [e] at hi; exact absurd hi (by simp))
  obtain ⟨h4, _, u, _, h6⟩ := h3 i hi
  exact ⟨h4, h6.ok⟩
theorem Tks.ok {w : World} {cs : List Value} {t : TK} (h : Tks w cs t) : t.ok := by
  obtain ⟨h1, us, ur, h2, h3, h4⟩ := h
  exact ⟨h1, h3.ok, h4.ok⟩
structure TM (w W : World) (m : Nat) (t : TK) (us ur : Value) : Prop where
  tk : TkAt W m t us ur
  src : Ads W us t.src
  rcs : Rcs W ur t.rcs
  blw : Below w.heap.size w W
  lt : w.heap.size ≤ m
theorem TM.below {w W W' : World} {m : Nat} {t : TK} {us ur : Value} (h : TM w W m t us ur) (hb : Below W.heap.size W W') : TM w W' m t us ur :=
  ⟨h.tk.below hb, h.src.below hb, h.rcs.below hb, bstep h.blw hb, h.lt⟩
theorem TM.tks {w W : World} {m : Nat} {t : TK} {us ur : Value} (h : TM w W m t us ur) : Tks W (tkC t us ur) t := ⟨h.tk.2, us, ur, rfl, h.src, h.rcs⟩
theorem TM.ok {w W : World} {m : Nat} {t : TK} {us ur : Value} (h : TM w W m t us ur) : t.ok := h.tks.ok
theorem TM.fok {W : World} {t : TK} {us ur : Value} (ho : adOk t.g) (hs : Ads W us t.src) (hr : Rcs W ur t.rcs) : fok (tkC t us ur).toArray 26 = true := fok_tk ho hs.one hr.one
theorem TM.made {w W : World} {t : TK} {us ur : Value} (hb : Below w.heap.size w W) (ho : adOk t.g) (hs : Ads W us t.src) (hr : Rcs W ur t.rcs) : TM w (aggW (W.alloc (.cells zz26 28)) W.heap.size (tkC t us ur)) W.heap.size t us ur := by
  have hk : Below W.heap.size W (aggW (W.alloc (.cells zz26 28)) W.heap.size (tkC t us ur)) := aggW_below ((Below.refl _ _).alloc (Nat.le_refl _) _) (Nat.le_refl _) _
  have hm := ObjAt.made W zz26 28
  exact ⟨⟨aggW_obj (L := (zz26 : Array Value).toList) (by simpa using hm) (by rw [tkC_length ho]; rfl) (tkC_one hs.one hr.one), ho⟩, hs.below hk, hr.below hk, bstep hb hk, hb.size⟩
theorem hfm26 (W : World) : free? (W.alloc (.cells zz26 28)) W.heap.size 0 26 = true := free_made W _ _ 26 (by simp)
end Go.Proofs.YtlbdehegknehiaaGreat

/- A part of the proof. -/
namespace Go.Proofs.YtlbdehegknehiaaGreat
open Go.RowKit
set_option linter.unusedVariables false
def isM (s : List UInt8) : Bool := decide (0 < s.length) && (decide (130 ≤ by8 s 0 ∧ by8 s 0 ≤ 132) || decide (by8 s 0 = 143))
end Go.Proofs.YtlbdehegknehiaaGreat

/- A part of the proof. -/
namespace Go.Proofs.YtlbdehegknehiaaGreat
open Go.RowKit
set_option linter.unusedVariables false
def bd6 (s : List UInt8) : List UInt8 := (s.drop 40).take (wd s 4)
def hb6 (s : List UInt8) : Nat := 8 * by8 (bd6 s) 1 + 8
theorem num4 (a b c d : UInt8) : num [a, b, c, d] = ((a.toNat * 256 + b.toNat) * 256 + c.toNat) * 256 + d.toNat := by
  have h1 := a.toNat_lt; have h2 := b.toNat_lt; have h3 := c.toNat_lt; have h4 := d.toNat_lt
  simp [num]; omega
theorem num1 (a : UInt8) : num [a] = a.toNat := by
  have h1 := a.toNat_lt
  simp [num]
end Go.Proofs.YtlbdehegknehiaaGreat

/- A part of the proof. -/
namespace Go.Proofs.YtlbdehegknehiaaGreat
open Go.RowKit
set_option linter.unusedVariables false
def Ip.nums6 (p : Ip) : Bool := decide (0 ≤ p.tos ∧ p.tos ≤ 255 ∧ 0 ≤ p.pro ∧ p.pro ≤ 255 ∧ 1 ≤ p.ttl ∧ p.ttl ≤ 255 ∧ 0 ≤ p.id ∧ p.id ≤ 1048575)
def Ip.good6 (p : Ip) : Bool := p.nums6 && (p.f6 && (p.t6 && decide (p.bd.length ≤ 1400)))
def Ip.h6 (p : Ip) : List UInt8 := putL (96 + p.tos.toNat / 16) 1 ++ (putL (p.tos.toNat % 16 * 16 + p.id.toNat / 65536) 1 ++ putL (p.id.toNat % 65536) 2)
def Ip.wrt6 (p : Ip) : List UInt8 :=
  if p.al then p.h6 ++ (putL (p.bd.length + 8) 2 ++ (0 :: (putL p.pro.toNat 1 ++ (p.fr ++ (p.to ++ (putL p.ttl.toNat 1 ++ ([0, 5, 2, 0, 0, 1, 0] ++ p.bd)))))))
  else p.h6 ++ (putL p.bd.length 2 ++ (putL p.ttl.toNat 1 ++ (putL p.pro.toNat 1 ++ (p.fr ++ (p.to ++ p.bd)))))
end Go.Proofs.YtlbdehegknehiaaGreat

/- A part of the proof. -/
namespace Go.Proofs.YtlbdehegknehiaaGreat
set_option maxRecDepth 100000
set_option maxHeartbeats 1000000
open Go.RowKit
set_option linter.unusedVariables false
attribute [local go_sem ↓] bld_eth ld_eth st_eth ld_mac st_mac
attribute [local go_sem] ldr_eth str_eth ldr_mac str_mac
theorem goodType_any (k : Int) (w : World) : Calls Tryz.prog 89 #[.int .i64 k] w fun x w' => x = .returned (.bool (goodTyV k)) ∧ w = w' := by
  go_enter Tryz.func89, Tryz.ntmps89
  go_wp2
  all_goals
    go_ret
    exact ⟨ret_bool (by unfold goodTyV; rw [Bool.eq_iff_iff]; simp; try (intros; first | omega | (simp_all; omega))), rfl⟩
theorem goodTag_any (e : Eth) (ho : e.ok) (w : World) : Calls Tryz.prog 88 #[.agg (ethC e).toArray] w fun x w' => x = .returned (.bool (goodTgV e.tg e.vl e.pr)) ∧ Below w.heap.size w w' := by
  have HB := zh (EB.made w e)
  go_enter Tryz.func88, Tryz.ntmps88
  go_upto_region 1 with (fail)
  generalize w.alloc (.cells (ethC e).toArray 54) = W at HB ⊢
  have c1 := HB.out.1.tg ho
  have c2 := HB.out.1.vl ho
  have c3 := HB.out.1.pr ho
  have Hb := zh HB.out.2
  clear HB
  obtain ⟨tto, fr, tg, v, p, k, b⟩ := e
  simp only at c1 c2 c3
  cases tg <;>
  · go_wp2
    all_goals
      go_ret
      exact ⟨ret_bool (by unfold goodTgV; rw [Bool.eq_iff_iff]; simp; try (intros; first | omega | (simp_all; omega))), Hb.out⟩
end Go.Proofs.YtlbdehegknehiaaGreat

/- A part of the proof. -/
namespace Go.Proofs.YtlbdehegknehiaaGreat
set_option maxRecDepth 100000
set_option maxHeartbeats 1000000
open Go.RowKit
set_option linter.unusedVariables false
attribute [local go_sem ↓] bld_eth ld_eth st_eth ld_mac st_mac
attribute [local go_sem] ldr_eth str_eth ldr_mac str_mac
theorem goodE_any (e : Eth) (ho : e.ok) (hl : e.bd.length ≤ 1000000) (w : World) : Calls Tryz.prog 71 #[.agg (ethC e).toArray] w fun x w' => x = .returned (.bool e.good) ∧ Below w.heap.size w w' := by
  have HB := zh (EB.made w e)
  have Ho := zh ho
  have hsz := Str_size e.bd
  cases h1 : goodTyV e.ty with
  | false =>
    have HG := zh (show e.good = false by unfold Eth.good goodEV; rw [h1]; rfl)
    have H1 := zh h1
    clear h1
    go_enter Tryz.func71, Tryz.ntmps71
    go_upto_region 1 with (fail)
    generalize w.alloc (.cells (ethC e).toArray 54) = W at HB ⊢
    have c4 := HB.out.1.ty ho
    clear ho
    go_wp2_with (go_at_call 89; refine (goodType_any e.ty _).mono ?_; rintro x w1 ⟨rfl, rfl⟩; rw [H1.out])
    go_ret
    exact ⟨ret_bool HG.out.symm, HB.out.2⟩
  | true =>
    cases h2 : goodTgV e.tg e.vl e.pr with
    | false =>
      have HG := zh (show e.good = false by unfold Eth.good goodEV; rw [h1, h2]; rfl)
      have H1 := zh h1
      have H2 := zh h2
      clear h1 h2
      go_enter Tryz.func71, Tryz.ntmps71
      go_upto_region 1 with (fail)
      generalize w.alloc (.cells (ethC e).toArray 54) = W at HB ⊢
      have c4 := HB.out.1.ty ho
      have hr := HB.out.1.row ho
      clear ho
      go_wp2_with (first
        | (go_at_call 89; refine (goodType_any e.ty _).mono ?_; rintro x w1 ⟨rfl, rfl⟩; rw [H1.out])
        | (go_at_call 88; refine (goodTag_any e Ho.out _).mono ?_; rintro x w1 ⟨rfl, hb1⟩; rw [H2.out]; have HB1 := zh (HB.out.keep hb1); clear hb1 hr c4))
      go_ret
      exact ⟨ret_bool HG.out.symm, HB1.out.2⟩
    | true =>
      have HG := zh (show e.good = decide ((e.bd.length : Int) ≤ 1500) by unfold Eth.good goodEV; rw [h1, h2, Bool.eq_iff_iff]; simp; omega)
      have H1 := zh h1
      have H2 := zh h2
      clear h1 h2
      go_enter Tryz.func71, Tryz.ntmps71
      go_upto_region 1 with (fail)
      generalize w.alloc (.cells (ethC e).toArray 54) = W at HB ⊢
      have c4 := HB.out.1.ty ho
      have hr := HB.out.1.row ho
      clear ho
      go_wp2_with (first
        | (go_at_call 89; refine (goodType_any e.ty _).mono ?_; rintro x w1 ⟨rfl, rfl⟩; rw [H1.out])
        | (go_at_call 88; refine (goodTag_any e Ho.out _).mono ?_; rintro x w1 ⟨rfl, hb1⟩; rw [H2.out]; have HB1 := zh (HB.out.keep hb1); have c5 := HB1.out.1.bd Ho.out; clear hb1 hr c4))
      go_ret
      exact ⟨ret_bool HG.out.symm, HB1.out.2⟩
theorem put_vlan (w : World) : Calls Tryz.prog 73 #[.int .u64 33024, .int .i64 2] w fun e w' => e = .returned (.string (Str [129, 0])) ∧ Below w.heap.size w w' := put_two 33024 (by omega) w
theorem clamp13 : clampN 13 64 = 13 ∧ clampN 3 64 = 3 := ⟨rfl, rfl⟩
theorem tag_any (e : Eth) (ho : e.ok) (hg : goodTgV e.tg e.vl e.pr = true) (w : World) : Calls Tryz.prog 72 #[.agg (ethC e).toArray] w fun x w' => x = .returned (.string (Str (tagL e.tg e.vl e.pr))) ∧ Below w.heap.size w w' := by
  have HB := zh (EB.made w e)
  obtain ⟨tto, fr, tg, v, p, k, b⟩ := e
  simp only at hg
  show Calls Tryz.prog 72 _ w fun x w' => x = .returned (.string (Str (tagL tg v p))) ∧ Below w.heap.size w w'
  cases tg with
  | false =>
    have HT := zh (show Str (tagL false v p) = ⟨#[]⟩ from rfl)
    go_enter Tryz.func72, Tryz.ntmps72
    go_upto_region 1 with (fail)
    generalize w.alloc (.cells (ethC _).toArray 54) = W at HB ⊢
    have c1 := HB.out.1.tg ho
    have Hb := zh HB.out.2
    clear HB ho
    simp only at c1
    go_wp2
    go_ret
    exact ⟨by rw [HT.out]; rfl, Hb.out⟩
  | true =>
    simp only [goodTgV, if_true, decide_eq_true_eq] at hg
    obtain ⟨vn, rfl⟩ := Int.eq_ofNat_of_zero_le (show 0 ≤ v by omega)
    obtain ⟨pn, rfl⟩ := Int.eq_ofNat_of_zero_le (show 0 ≤ p by omega)
    have hv : vn ≤ 4094 := by omega
    have hp : pn ≤ 7 := by omega
    have hS := setN_tag vn pn (by omega) hp
    have hT : tagL true (vn : Int) (pn : Int) = [129, 0] ++ putL (8192 * pn + vn) 2 := by unfold tagL; rw [if_pos rfl, show (8192 * (pn : Int) + (vn : Int)).toNat = 8192 * pn + vn by omega]; rfl
    have hle : 8192 * pn + vn ≤ 18446744073709551615 := by omega
    generalize 8192 * pn + vn = N at hS hT hle
    have HS := zh hS
    have HT := zh hT
    have HVB := zh hle
    clear hS hT hle
    have HV := zh (show IntKind.u64.wrap (vn : Int) = (vn : Int) by simp only [IntKind.wrap_u64]; omega)
    have HP := zh (show IntKind.u64.wrap (pn : Int) = (pn : Int) by simp only [IntKind.wrap_u64]; omega)
    obtain ⟨R, hR⟩ : ∃ R, R = tagL true (vn : Int) (pn : Int) := ⟨_, rfl⟩
    rw [← hR]
    have HR := zh hR; clear hR
    have hcat := run_cat (P := Tryz.prog) [129, 0] (putL N 2) (by simp [putL_length])
    have HVN : Hid (vn ≤ 4094 ∧ pn ≤ 7) := zh ⟨hv, hp⟩
    clear hg
    go_enter Tryz.func72, Tryz.ntmps72
    go_upto_region 1 with (fail)
    generalize w.alloc (.cells (ethC _).toArray 54) = W at HB ⊢
    have c1 := HB.out.1.tg ho
    have c2 := HB.out.1.vl ho
    have c3 := HB.out.1.pr ho
    simp only at c1 c2 c3
    have Hb := zh HB.out.2
    clear HB ho
    go_wp2_with (first
      | (go_at_call 160; refine (set_any vn (by have := HVN.out; omega) 13 3 pn (by have := HVN.out; omega) _).mono ?_; rintro x w1 ⟨rfl, rfl⟩; rw [clamp13.1, clamp13.2, HS.out])
      | (go_at_call 73; (with_reducible refine (put_vlan _).mono ?_); rintro x w2 ⟨rfl, hb2⟩; have Hb2 := zh (bstep Hb.out hb2); clear hb2 Hb c1 c2 c3)
      | (go_at_call 73; (with_reducible refine (put_two N HVB.out _).mono ?_); rintro x w3 ⟨rfl, hb3⟩; have Hb3 := zh (bstep Hb2.out hb3); clear hb3))
    go_ret
    exact ⟨by rw [HR.out, HT.out]; rfl, Hb3.out⟩
end Go.Proofs.YtlbdehegknehiaaGreat

/- A part of the proof. -/
namespace Go.Proofs.YtlbdehegknehiaaGreat
set_option maxRecDepth 100000
set_option maxHeartbeats 1000000
open Go.RowKit
set_option linter.unusedVariables false
attribute [local go_sem ↓] bld_eth ld_eth st_eth ld_mac st_mac
attribute [local go_sem] ldr_eth str_eth ldr_mac str_mac
def EF (w W : World) (e : Eth) : Prop := row? W w.heap.size 0 17 = some (ethC e) ∧ RowAt W w.heap.size 0 e.to ∧ RowAt W w.heap.size 6 e.fr ∧ W.cell? ⟨w.heap.size, 15, none⟩ = some (.int .i64 e.ty) ∧ W.cell? ⟨w.heap.size, 16, none⟩ = some (.string (Str e.bd)) ∧ EB w W e
theorem EthAt.rowTo {W : World} {b : Nat} {e : Eth} (h : EthAt W b e) (ho : e.ok) : RowAt W b 0 e.to := fun i hi => by
  rw [ObjAt.cell h, List.getElem?_toArray]
  unfold ethC
  rw [List.getElem?_append_left (by rw [B8_length]; omega), Nat.zero_add, B8_get, List.getElem?_eq_getElem hi]; rfl
theorem EthAt.rowFr {W : World} {b : Nat} {e : Eth} (h : EthAt W b e) (ho : e.ok) : RowAt W b 6 e.fr := fun i hi => by
  rw [ObjAt.cell h, List.getElem?_toArray]
  unfold ethC
  rw [List.getElem?_append_right (by rw [B8_length, ho.1]; omega), B8_length, ho.1, Nat.add_sub_cancel_left, List.getElem?_append_left (by rw [B8_length]; omega), B8_get, List.getElem?_eq_getElem hi]; rfl
theorem EB.ef {w W : World} {e : Eth} (h : EB w W e) (ho : e.ok) : EF w W e := ⟨h.1.row ho, h.1.rowTo ho, h.1.rowFr ho, h.1.ty ho, h.1.bd ho, h⟩
def Eth.wr (e : Eth) : List UInt8 × Int := if e.good then (e.wrt, 0) else ([], 2)
theorem write_good (e : Eth) (ho : e.ok) (hg : e.good = true) (w : World) : Calls Tryz.prog 25 #[.agg (ethC e).toArray] w fun x w' => x = .returned (.tuple #[.string (Str e.wrt), .int .i64 0]) ∧ Below w.heap.size w w' := by
  have HB := zh (EB.made w e)
  have HG := zh hg
  have Ho := zh ho
  have hg2 := hg
  unfold Eth.good goodEV at hg2
  simp only [Bool.and_eq_true, decide_eq_true_eq] at hg2
  obtain ⟨g1, g2, g3⟩ := hg2
  unfold goodTyV at g1
  rw [decide_eq_true_eq] at g1
  have HG2 := zh g2
  have HL := zh (show e.bd.length ≤ 1000000 by omega)
  obtain ⟨kn, hk⟩ := Int.eq_ofNat_of_zero_le (show 0 ≤ e.ty by omega)
  have HW := zh (show e.wrt = e.to ++ (e.fr ++ (tagL e.tg e.vl e.pr ++ (putL kn 2 ++ e.bd))) by unfold Eth.wrt wrtL; rw [hk]; rfl)
  have hkw : IntKind.u64.wrap (kn : Int) = (kn : Int) := by simp only [IntKind.wrap_u64]; omega
  have hkb : kn ≤ 18446744073709551615 := by omega
  have HKB := zh hkb
  have ht4 : (tagL e.tg e.vl e.pr).length ≤ 4 := by rw [tagL_length]; split <;> omega
  have hT := fun w => tag_any e ho g2 w
  generalize tagL e.tg e.vl e.pr = T at HW ht4 hT
  have HT := zh hT; clear hT
  obtain ⟨l1, l2⟩ := id ho
  have hA := row_to (P := Tryz.prog) (b := w.heap.size) (o := 0) (l := e.to) 94 9 5 Tryz.underlying94 Tryz.underlying5 Tryz.underlying9 6 6 (by omega)
  have hB := row_to (P := Tryz.prog) (b := w.heap.size) (o := 6) (l := e.fr) 94 9 5 Tryz.underlying94 Tryz.underlying5 Tryz.underlying9 6 6 (by omega)
  rw [List.take_of_length_le (by omega)] at hA hB
  have c1 := run_cat (P := Tryz.prog) e.to e.fr (by omega)
  have c2 := run_cat (P := Tryz.prog) (e.to ++ e.fr) T (by simp; omega)
  have c3 := run_cat (P := Tryz.prog) (e.to ++ (e.fr ++ T)) (putL kn 2) (by simp [putL_length]; omega)
  have c4 := run_cat (P := Tryz.prog) (e.to ++ (e.fr ++ (T ++ putL kn 2))) e.bd (by simp [putL_length]; omega)
  simp only [List.append_assoc] at c2 c3 c4
  have HK : Hid (∀ W, EB w W e → row? W w.heap.size 0 17 = some (ethC e) ∧ RowAt W w.heap.size 0 e.to ∧ RowAt W w.heap.size 6 e.fr ∧ W.cell? ⟨w.heap.size, 15, none⟩ = some (.int .i64 (kn : Int)) ∧ W.cell? ⟨w.heap.size, 16, none⟩ = some (.string (Str e.bd)) ∧ EB w W e) :=
    zh fun W h => by
      obtain ⟨q1, q2, q3, q4, q5, q6⟩ := h.ef ho
      rw [hk] at q4
      exact ⟨q1, q2, q3, q4, q5, q6⟩
  have hr0 : ∀ W, EB w W e → row? W w.heap.size 0 17 = some (ethC e) := fun W h => h.1.row ho
  have HR0 := zh hr0
  have Hk := zh hk
  have h4 := zh ht4
  clear hg g1 g2 g3 hk ht4 l1 l2 ho hkb hr0
  go_enter Tryz.func25, Tryz.ntmps25
  go_upto_region 1 with (fail)
  generalize w.alloc (.cells (ethC e).toArray 54) = W at HB ⊢
  have hr := HR0.out _ HB.out
  go_upto_region 3 with (go_at_call 71; refine (goodE_any e Ho.out HL.out _).mono ?_; rintro x w1 ⟨rfl, hb1⟩; rw [HG.out]; have HB1 := zh (HB.out.keep hb1); clear hb1 hr)
  go_region_held3 (fun W => row? W w.heap.size 0 17 = some (ethC e) ∧ RowAt W w.heap.size 0 e.to ∧ RowAt W w.heap.size 6 e.fr ∧ W.cell? ⟨w.heap.size, 15, none⟩ = some (.int .i64 (kn : Int)) ∧ W.cell? ⟨w.heap.size, 16, none⟩ = some (.string (Str e.bd)) ∧ EB w W e) (first | assumption | exact HK.out _ (HB1.out.drewN 1)) (first
    | (go_at_call 73; (with_reducible refine (put_two kn HKB.out _).mono ?_); rintro x w3 ⟨rfl, hb3⟩; have hk := HK.out _ (EB.keep (w := w) (e := e) (And.right (And.right (And.right (And.right (And.right (by assumption)))))) hb3); clear hb3)
    | (go_at_call 72; refine (HT.out _).mono ?_; rintro x w3 ⟨rfl, hb3⟩; have hk := HK.out _ (EB.keep (w := w) (e := e) (And.right (And.right (And.right (And.right (And.right (by assumption)))))) hb3); clear hb3))
  go_wp2_with fail
  go_ret2
  exact ⟨by rw [HW.out]; rfl, hk.2.2.2.2.2.2⟩
end Go.Proofs.YtlbdehegknehiaaGreat

/- A part of the proof. -/
namespace Go.Proofs.YtlbdehegknehiaaGreat
set_option maxRecDepth 100000
set_option maxHeartbeats 400000
open Go.RowKit
set_option linter.unusedVariables false
def RdAt (w : World) (b : Nat) (l : List UInt8) (k : Nat) (bad : Bool) : Prop := ObjAt w b #[.string (Str l), .int .i64 k, .bool bad] 164
def takeV (l : List UInt8) (bad : Bool) (n : Int) : List UInt8 := if bad then [] else if (l.length : Int) < n then [] else l.take n.toNat
def leftV (l : List UInt8) (bad : Bool) (n : Int) : List UInt8 := if bad then l else if (l.length : Int) < n then l else l.drop n.toNat
def pastV (l : List UInt8) (bad : Bool) (n : Int) (k : Nat) : Nat := if bad then k else if (l.length : Int) < n then k else k + n.toNat
def badV (l : List UInt8) (bad : Bool) (n : Int) : Bool := if bad then true else decide ((l.length : Int) < n)
theorem takeV_le (l : List UInt8) (bad : Bool) (n : Int) : (takeV l bad n).length ≤ l.length := by
  unfold takeV; repeat' split
  all_goals simp
  omega
theorem new_any (s : ByteArray) (w : World) : Calls Tryz.prog 82 #[.string s] w fun e w' => e = .returned (.pointer (some ⟨w.heap.size, 0, none⟩)) ∧ w' = w.alloc (.cells #[.string s, .int .i64 0, .bool false] 164) := by
  go_enter Tryz.func82, Tryz.ntmps82
  go_wp2
  go_ret
  exact ⟨rfl, rfl⟩
theorem take_any (b : Nat) (l : List UInt8) (k : Nat) (bad : Bool) (n : Int) (hl : l.length ≤ 1000000) (hk : k ≤ 1000000) (w : World) (h : RdAt w b l k bad) :
    Calls Tryz.prog 162 #[.pointer (some ⟨b, 0, none⟩), .int .i64 n] w fun e w' => e = .returned (.string (Str (takeV l bad n))) ∧ RdAt w' b (leftV l bad n) (pastV l bad n k) (badV l bad n) ∧ w.grownBy w' (some b) := by
  have H := zh h
  have c0 := h.cell 0
  have c1 := h.cell 1
  have c2 := h.cell 2
  have f0 := h.free 0
  have f1 := h.free 1
  have f2 := h.free 2
  simp at c0 c1 c2
  clear h
  cases bad with
  | true =>
    go_enter Tryz.func162, Tryz.ntmps162
    go_wp2
    go_ret
    exact ⟨rfl, H.out, World.grownBy.refl _ _⟩
  | false =>
    have hsz : (Str l).size = l.length := Str_size l
    have H := zh H.out
    by_cases hn : n < 0
    · have e1 : ¬ ((l.length : Int) < n) := by omega
      have HT := zh (show takeV l false n = [] ∧ leftV l false n = l ∧ pastV l false n k = k ∧ badV l false n = false by
        simp [takeV, leftV, pastV, badV, e1, show n.toNat = 0 by omega])
      clear e1
      go_enter Tryz.func162, Tryz.ntmps162
      go_wp2
      go_ret
      obtain ⟨t1, t2, t3, t4⟩ := HT.out
      refine ⟨?_, ?_, ?_⟩
      · rw [t1]; rfl
      · rw [t2, t3, t4]
        have g := (H.out.set 0 (.string ((Str l).extract 0 l.length))).set 1 (.int .i64 (k : Int))
        rw [Str_extract] at g ⊢
        simpa [RdAt] using g
      · exact gset' (gset _ _ _ _) _ _
    · by_cases hlt : (l.length : Int) < n
      · have HT := zh (show takeV l false n = [] ∧ leftV l false n = l ∧ pastV l false n k = k ∧ badV l false n = true by
          simp [takeV, leftV, pastV, badV, hlt])
        go_enter Tryz.func162, Tryz.ntmps162
        go_wp2
        go_ret
        obtain ⟨t1, t2, t3, t4⟩ := HT.out
        refine ⟨?_, ?_, ?_⟩
        · rw [t1]; rfl
        · rw [t2, t3, t4]
          have g := H.out.set 2 (.bool true)
          simpa [RdAt] using g
        · exact gset _ _ _ _
      · obtain ⟨m, rfl⟩ := Int.eq_ofNat_of_zero_le (show 0 ≤ n by omega)
        have HT := zh (show takeV l false m = l.take m ∧ leftV l false m = l.drop m ∧ pastV l false m k = k + m ∧ badV l false m = false by
          unfold takeV leftV pastV badV; simp only [if_neg hlt, Int.toNat_natCast]; simp; omega)
        go_enter Tryz.func162, Tryz.ntmps162
        go_wp2
        go_ret
        obtain ⟨t1, t2, t3, t4⟩ := HT.out
        refine ⟨?_, ?_, ?_⟩
        · rw [t1]
          have e : (Str l).extract 0 m = Str (l.take m) := by rw [Str_extract]; simp
          rw [← e]; rfl
        · rw [t2, t3, t4]
          have g := (H.out.set 0 (.string ((Str l).extract m l.length))).set 1 (.int .i64 ((k : Int) + (m : Int)))
          rw [Str_extract, List.take_of_length_le (by simp)] at g ⊢
          simpa [RdAt] using g
        · exact gset' (gset _ _ _ _) _ _
theorem bad_any (b : Nat) (l : List UInt8) (k : Nat) (bad : Bool) (w : World) (h : RdAt w b l k bad) : Calls Tryz.prog 87 #[.pointer (some ⟨b, 0, none⟩)] w fun e w' => e = .returned (.bool bad) ∧ w' = w := by
  have c2 := h.cell 2
  simp at c2
  clear h
  go_enter Tryz.func87, Tryz.ntmps87
  go_wp2
  go_ret
  exact ⟨rfl, rfl⟩
theorem rest_any (b : Nat) (l : List UInt8) (k : Nat) (bad : Bool) (w : World) (h : RdAt w b l k bad) : Calls Tryz.prog 86 #[.pointer (some ⟨b, 0, none⟩)] w fun e w' => e = .returned (.string (Str l)) ∧ w' = w := by
  have c2 := h.cell 0
  simp at c2
  clear h
  go_enter Tryz.func86, Tryz.ntmps86
  go_wp2
  go_ret
  exact ⟨rfl, rfl⟩
theorem left_any (b : Nat) (l : List UInt8) (k : Nat) (bad : Bool) (w : World) (h : RdAt w b l k bad) : Calls Tryz.prog 199 #[.pointer (some ⟨b, 0, none⟩)] w fun e w' => e = .returned (.int .i64 l.length) ∧ w' = w := by
  have hs := zh (Str_size l)
  have H := zh h
  clear h
  go_enter Tryz.func199, Tryz.ntmps199
  go_wp2_with (go_at_call 86; refine (rest_any b l k bad _ H.out).mono ?_; rintro e w' ⟨rfl, rfl⟩)
  go_ret
  exact ⟨ret_int (by rw [← hs.out]), rfl⟩
theorem num_any (b : Nat) (l : List UInt8) (k : Nat) (bad : Bool) (n : Int) (hl : l.length ≤ 1000000) (hk : k ≤ 1000000) (w : World) (h : RdAt w b l k bad) :
    Calls Tryz.prog 84 #[.pointer (some ⟨b, 0, none⟩), .int .i64 n] w fun e w' => e = .returned (.int .u64 (num (takeV l bad (clampN n 8)))) ∧ RdAt w' b (leftV l bad (clampN n 8)) (pastV l bad (clampN n 8) k) (badV l bad (clampN n 8)) ∧ w.grownBy w' (some b) := by
  have H := zh h
  clear h
  go_enter Tryz.func84, Tryz.ntmps84
  go_wp2_with fail
  refine (clamp_any n 8 _).mono ?_
  rintro e w1 ⟨rfl, rfl⟩
  go_wp2_with fail
  refine (take_any b l k bad _ hl hk _ H.out).mono ?_
  rintro e w1 ⟨rfl, h1, g1⟩
  have H1 := zh h1; clear h1
  have G1 := zh g1; clear g1
  go_wp2_with fail
  refine (number_any _ (by rw [Str_size]; unfold maxLen; have := takeV_le l bad (clampN n 8); omega) _).mono ?_
  rintro e w2 ⟨rfl, rfl⟩
  go_wp2
  go_ret
  exact ⟨rfl, H1.out, G1.out⟩
end Go.Proofs.YtlbdehegknehiaaGreat

/- A part of the proof. -/
namespace Go.Proofs.YtlbdehegknehiaaGreat
set_option maxRecDepth 100000
set_option maxHeartbeats 1000000
open Go.RowKit
set_option linter.unusedVariables false
attribute [local go_sem ↓] bld_eth ld_eth st_eth ld_mac st_mac
attribute [local go_sem] ldr_eth str_eth ldr_mac str_mac
theorem gbelow {w a c : World} {row : Option Nat} (h : w.grownBy a row) (k : Below w.heap.size a c) : w.grownBy c row :=
  ⟨k.os.trans h.os, k.tape.trans h.tape, k.output.trans h.output, Nat.le_trans h.size k.size, fun i hi hne => (k.block i hi).trans (h.block i hi hne)⟩
theorem gof {w c : World} {row : Option Nat} (k : Below w.heap.size w c) : w.grownBy c row := ⟨k.os, k.tape, k.output, k.size, fun i hi _ => k.block i hi⟩
theorem step_copy_str {ops : Array Oper} {o : Oper} {a : Act} {w : World} {K : Act → World → Prop} {Q : Exit → Act → World → Prop} {E : Prop}
    (hg : o.guard = none) (d x : Operand) (dT sT : TypeId) (hop : o.op = Op.call { callee := Callee.builtin Builtin.copy, args := #[d, x], argTypes := #[dT, sT] })
    (hu : Tryz.prog.underlying dT = some (.slice 5))
    (b off dLen dCap : Nat) (hd : a.eval d = .slice (some ⟨b, off, none⟩) dLen dCap) (l : List UInt8) (hx : a.eval x = .string (Str l)) (hle : l.length ≤ dLen)
    (L : List Value) (t : TypeId) (hG : ObjAt w b L.toArray t) (hfit : off + l.length ≤ L.length)
    (hK : K (a.put o.dst (goInt l.length)) (aggO w b off (B8 l))) :
    if Region.wanted o (yielded ops a.tmps) = true then Oper.wp Tryz.prog o a w K Q else E := by
  have hz : ∀ w, (Go.sizeOf 5).run Tryz.prog w = .ok 1 w := fun w => by
    obtain ⟨i, hi⟩ := info_of_underlying Tryz.underlying5
    have hs : (Tryz.prog.info? 5).map (·.size) = some 1 := by kernel_rfl
    rw [hi] at hs
    simp at hs
    simp [sizeOf, typeInfo, hi, hs]
  refine step_copy_string hg d x dT sT hop 5 hu hz b off dLen dCap hd (Str l) hx (by rw [Str_size]; exact hle) (fun j hj => by rw [hG.cell]; rw [Str_size] at hj; simp; omega) (fun j hj => hG.free _) ?_
  rw [Str_size]
  have e : w.setCells b off ((Str l).data.toList.map fun x => Value.int .u8 (x.toNat : Int)) = aggO w b off (B8 l) := (aggO_eq _ _ _ _).symm
  rw [e]
  exact hK
def macOf (t : List UInt8) : List UInt8 := t ++ List.replicate (6 - t.length) 0
theorem macOf_length {t : List UInt8} (h : t.length ≤ 6) : (macOf t).length = 6 := by unfold macOf; simp; omega
theorem over_mac (t : List UInt8) (h : t.length ≤ 6) : over (B8 (List.replicate 6 0)) 0 (B8 t) = B8 (macOf t) := by
  unfold over macOf
  rw [B8_append, B8_length, B8_replicate, B8_replicate, Nat.zero_add, List.drop_replicate]
  rfl
theorem takeV6 (l : List UInt8) (bad : Bool) : (takeV l bad 6).length ≤ 6 := by
  unfold takeV; repeat' split
  all_goals simp
  omega
def TMe (w W : World) (b : Nat) (l : List UInt8) (k : Nat) (bad : Bool) : Prop :=
  RdAt W b l k bad ∧ ObjAt W w.heap.size (B8 (List.replicate 6 0)).toArray 32 ∧ ObjAt W (w.heap.size + 1) (B8 (List.replicate 6 0)).toArray 32 ∧ b < w.heap.size ∧ w.grownBy W (some b)
theorem TMe.start (w : World) (b : Nat) (l : List UInt8) (k : Nat) (bad : Bool) (h : RdAt w b l k bad) :
    TMe w ((w.alloc (.cells #[.int .u8 0, .int .u8 0, .int .u8 0, .int .u8 0, .int .u8 0, .int .u8 0] 32)).alloc (.cells #[.int .u8 0, .int .u8 0, .int .u8 0, .int .u8 0, .int .u8 0, .int .u8 0] 32)) b l k bad := by
  have hb : b < w.heap.size := ObjAt.lt h
  refine ⟨ObjAt.alloc (ObjAt.alloc h _) _, (ObjAt.made w _ _).alloc _, ?_, hb, gof (((Below.refl _ _).alloc (Nat.le_refl _) _).alloc (by simp) _)⟩
  have := ObjAt.made (w.alloc (.cells #[.int .u8 0, .int .u8 0, .int .u8 0, .int .u8 0, .int .u8 0, .int .u8 0] 32)) #[.int .u8 0, .int .u8 0, .int .u8 0, .int .u8 0, .int .u8 0, .int .u8 0] 32
  rw [show (B8 (List.replicate 6 0)).toArray = #[.int .u8 0, .int .u8 0, .int .u8 0, .int .u8 0, .int .u8 0, .int .u8 0] from rfl]
  rw [show (w.alloc (.cells #[.int .u8 0, .int .u8 0, .int .u8 0, .int .u8 0, .int .u8 0, .int .u8 0] 32)).heap.size = w.heap.size + 1 by simp] at this
  exact this
theorem TMe.grown {w W W' : World} {b : Nat} {l : List UInt8} {k : Nat} {bad : Bool} (h : TMe w W b l k bad) {l' : List UInt8} {k' : Nat} {bad' : Bool} (hr : RdAt W' b l' k' bad') (hg : W.grownBy W' (some b)) : TMe w W' b l' k' bad' :=
  ⟨hr, ObjAt.grown h.2.1 hg (by have := h.2.2.2.1; simp; omega), ObjAt.grown h.2.2.1 hg (by have := h.2.2.2.1; simp; omega), h.2.2.2.1, gtrans h.2.2.2.2 hg⟩
theorem TMe.drewN {w W : World} {b : Nat} {l : List UInt8} {k : Nat} {bad : Bool} (h : TMe w W b l k bad) (n : Nat) : TMe w (W.drewN n) b l k bad := ⟨h.1, h.2.1, h.2.2.1, h.2.2.2.1, gdrewN h.2.2.2.2 n⟩
theorem TMe.copied {w W : World} {b : Nat} {l : List UInt8} {k : Nat} {bad : Bool} (h : TMe w W b l k bad) {t : List UInt8} (ht : t.length ≤ 6) :
    row? (aggO W (w.heap.size + 1) 0 (B8 t)) (w.heap.size + 1) 0 6 = some (B8 (macOf t)) ∧ free? (aggO W (w.heap.size + 1) 0 (B8 t)) w.heap.size 0 6 = true ∧
    RdAt (aggW (aggO W (w.heap.size + 1) 0 (B8 t)) w.heap.size (B8 (macOf t))) b l k bad ∧ w.grownBy (aggW (aggO W (w.heap.size + 1) 0 (B8 t)) w.heap.size (B8 (macOf t))) (some b) ∧
    row? (aggW (aggO W (w.heap.size + 1) 0 (B8 t)) w.heap.size (B8 (macOf t))) w.heap.size 0 6 = some (B8 (macOf t)) := by
  obtain ⟨h1, h2, h3, h4, h5⟩ := h
  have o1 := aggO_obj (o := 0) (cs := B8 t) h3 (by simp [B8_length]; omega) (B8_one t)
  rw [over_mac t ht] at o1
  have o2 := aggO_other (o := 0) h2 (B8 t) (show w.heap.size ≠ w.heap.size + 1 by omega)
  have o3 := aggO_other (o := 0) h1 (B8 t) (show b ≠ w.heap.size + 1 by omega)
  have f1 : free? (aggO W (w.heap.size + 1) 0 (B8 t)) w.heap.size 0 6 = true := obj_free o2 (by simp [B8_length])
  have hl : (B8 (macOf t)).length = 6 := by rw [B8_length, macOf_length ht]
  exact ⟨obj_row (A := []) (M := B8 (macOf t)) (C := []) (by simpa using o1) rfl hl, f1, aggW_other o3 _ (by omega),
    gbelow h5 (aggW_below (aggO_below (Below.refl _ _) (by omega) _ _) (Nat.le_refl _) _), aggW_row f1 hl⟩
theorem takeMac_any (b : Nat) (l : List UInt8) (k : Nat) (bad : Bool) (hl : l.length ≤ 1000000) (hk : k ≤ 1000000) (w : World) (h : RdAt w b l k bad) :
    Calls Tryz.prog 83 #[.pointer (some ⟨b, 0, none⟩)] w fun x w' => x = .returned (.agg (B8 (macOf (takeV l bad 6))).toArray) ∧ RdAt w' b (leftV l bad 6) (pastV l bad 6 k) (badV l bad 6) ∧ w.grownBy w' (some b) := by
  have HT := zh (TMe.start w b l k bad h)
  have H6 := zh (takeV6 l bad)
  have HR : Hid (∀ W, RdAt W b l k bad → Calls Tryz.prog 162 #[.pointer (some ⟨b, 0, none⟩), .int .i64 6] W fun e w' => e = .returned (.string (Str (takeV l bad 6))) ∧ RdAt w' b (leftV l bad 6) (pastV l bad 6 k) (badV l bad 6) ∧ W.grownBy w' (some b)) := zh fun W hW => take_any b l k bad 6 hl hk W hW
  generalize takeV l bad 6 = t at H6 HR ⊢
  generalize leftV l bad 6 = l' at HR ⊢
  generalize pastV l bad 6 k = k' at HR ⊢
  generalize badV l bad 6 = bad' at HR ⊢
  have hfok := fok_bytes (macOf t) 6 (macOf_length H6.out)
  clear h
  go_enter Tryz.func83, Tryz.ntmps83
  go_upto_region 2 with (fail)
  generalize (w.alloc (.cells #[.int .u8 0, .int .u8 0, .int .u8 0, .int .u8 0, .int .u8 0, .int .u8 0] 32)).alloc (.cells #[.int .u8 0, .int .u8 0, .int .u8 0, .int .u8 0, .int .u8 0, .int .u8 0] 32) = W at HT ⊢
  go_region_law (first
    | (refine step_copy_str rfl (.tmp 4) (.tmp 6) 94 9 rfl Tryz.underlying94 (w.heap.size + 1) 0 6 6 (by simp [Act.eval]) t (by simp [Act.eval]) H6.out _ _ HT1.out.2.2.1 (by simp [B8_length]; exact H6.out) ?_)
    | (go_simp; go_at_call 162; refine (HR.out _ (HT.out.drewN 1).1).mono ?_; rintro x w1 ⟨rfl, hr1, hg1⟩; have HT1 := zh ((HT.out.drewN 1).grown hr1 hg1); clear hr1 hg1))
  obtain ⟨q1, q2, q3, q4, q5⟩ := HT1.out.copied H6.out
  go_wp2
  exact bodyPost_ret (results_cell Tryz.results83 rfl (ld_some q5 (ldr_mac _ _ _))) rfl ⟨rfl, q3, q4⟩
end Go.Proofs.YtlbdehegknehiaaGreat

