/-
  Texts joined: Mac6, PureFr, Fr, Iq.
-/
import Derived.Test.YtlbdehegknehiaaGreatMg00
import Derived.Test.YtlbdehegknehiaaGreatMg18
import Derived.Deep.RegionLaw
import Derived.Laws.CopyOwn
import Derived.Test.YtlbdehegknehiaaGreatMg16
import Derived.Test.YtlbdehegknehiaaGreatMg03
import Derived.Test.YtlbdehegknehiaaGreatMg10
import Derived.Test.YtlbdehegknehiaaGreatIp
/- A part of the proof. -/
namespace Go.Proofs.YtlbdehegknehiaaGreat
set_option maxRecDepth 100000
set_option maxHeartbeats 1000000
open Go.RowKit
set_option linter.unusedVariables false
attribute [local go_sem ↓] bld_mac ld_addr ld_mac st_mac
attribute [local go_sem] ldr_addr ldr_mac str_mac
def M3 (w W : World) (n : Nat) (v : Bool) (l M : List UInt8) : Prop :=
  ObjAt W w.heap.size (addrC v l).toArray 24 ∧ ObjAt W (w.heap.size + 1) (B8 [0, 0, 0, 0, 0, 0]).toArray 32 ∧ ObjAt W n (B8 M).toArray 32 ∧ M.length = 6 ∧ w.heap.size + 1 < n ∧ Below w.heap.size w W
def M2 (w W : World) (v : Bool) (l : List UInt8) : Prop :=
  ObjAt W w.heap.size (addrC v l).toArray 24 ∧ ObjAt W (w.heap.size + 1) (B8 [0, 0, 0, 0, 0, 0]).toArray 32 ∧ Below w.heap.size w W
theorem M2.start (w : World) (v : Bool) (l : List UInt8) : M2 w ((w.alloc (.cells (addrC v l).toArray 24)).alloc (.cells (B8 [0, 0, 0, 0, 0, 0]).toArray 32)) v l := by
  refine ⟨(ObjAt.made w _ _).alloc _, ?_, ((Below.refl _ _).alloc (Nat.le_refl _) _).alloc (by simp) _⟩
  have := ObjAt.made (w.alloc (.cells (addrC v l).toArray 24)) (B8 [0, 0, 0, 0, 0, 0]).toArray 32
  rw [show (w.alloc (.cells (addrC v l).toArray 24)).heap.size = w.heap.size + 1 by simp] at this
  exact this
theorem M2.below {w W W' : World} {v : Bool} {l : List UInt8} (h : M2 w W v l) (hb : Below W.heap.size W W') : M2 w W' v l := ⟨h.1.below hb h.1.lt, h.2.1.below hb h.2.1.lt, bstep h.2.2 hb⟩
theorem M2.row {w W : World} {v : Bool} {l : List UInt8} (h : M2 w W v l) (hl : l.length = 16) : row? W w.heap.size 0 17 = some (addrC v l) := obj_row (A := []) (M := addrC v l) (C := []) (by simpa using h.1) rfl (by rw [addrC_length, hl])
theorem M2.fam {w W : World} {v : Bool} {l : List UInt8} (h : M2 w W v l) : W.cell? ⟨w.heap.size, 0, none⟩ = some (.bool v) := h.1.cell 0
theorem M2.free {w W : World} {v : Bool} {l : List UInt8} (h : M2 w W v l) : free? W (w.heap.size + 1) 0 6 = true := obj_free h.2.1 (by simp [B8_length])
theorem M3.made {w W : World} {v : Bool} {l : List UInt8} (h : M2 w W v l) (M : List UInt8) (hM : M.length = 6) : M3 w (aggW (W.alloc (.cells (B8 [0, 0, 0, 0, 0, 0]).toArray 32)) W.heap.size (B8 M)) W.heap.size v l M := by
  have l1 := h.1.lt
  have l2 := h.2.1.lt
  exact ⟨aggW_other (h.1.alloc _) _ (by omega), aggW_other (h.2.1.alloc _) _ (by omega), aggW_obj (L := B8 [0, 0, 0, 0, 0, 0]) (ObjAt.made W _ _) (by rw [B8_length, B8_length, hM]; rfl) (B8_one M), hM, l2, aggW_below (h.2.2.alloc (by omega) _) (by omega) _⟩
theorem M3.m2 {w W : World} {n : Nat} {v : Bool} {l M : List UInt8} (h : M3 w W n v l M) : M2 w W v l := ⟨h.1, h.2.1, h.2.2.2.2.2⟩
theorem M3.below {w W W' : World} {n : Nat} {v : Bool} {l M : List UInt8} (h : M3 w W n v l M) (hb : Below W.heap.size W W') : M3 w W' n v l M :=
  ⟨h.1.below hb h.1.lt, h.2.1.below hb h.2.1.lt, h.2.2.1.below hb h.2.2.1.lt, h.2.2.2.1, h.2.2.2.2.1, bstep h.2.2.2.2.2 hb⟩
theorem M3.drewN {w W : World} {n : Nat} {v : Bool} {l M : List UInt8} (h : M3 w W n v l M) (k : Nat) : M3 w (W.drewN k) n v l M := h.below (bdrewN (Below.refl _ _) k)
theorem M3.at {w W : World} {n : Nat} {v : Bool} {l M : List UInt8} (h : M3 w W n v l M) (j : Nat) (hj : j < l.length) : W.cell? ⟨w.heap.size, 1 + j, none⟩ = some (.int .u8 ((l[j]).toNat : Int)) := by
  rw [h.1.cell, List.getElem?_toArray]
  simp [addrC, Nat.add_comm 1 j, B8, List.getElem?_eq_getElem hj]
theorem M3.frz {w W : World} {n : Nat} {v : Bool} {l M : List UInt8} (h : M3 w W n v l M) (j : Nat) : W.frozen? ⟨n, j, none⟩ = false := h.2.2.1.free j
theorem M3.set {w W : World} {n : Nat} {v : Bool} {l M : List UInt8} (h : M3 w W n v l M) (j : Nat) (b : UInt8) : M3 w (W.setCell ⟨n, j, none⟩ (.int .u8 (b.toNat : Int))) n v l (M.set j b) := by
  obtain ⟨h1, h2, h3, h4, h5, h6⟩ := h
  refine ⟨h1.other ⟨n, j, none⟩ _ (by show w.heap.size ≠ n; omega), h2.other ⟨n, j, none⟩ _ (by show w.heap.size + 1 ≠ n; omega), ?_, by simpa using h4, h5, h6.setCell (p := ⟨n, j, none⟩) (by show w.heap.size ≤ n; omega) _⟩
  have := h3.set j (.int .u8 (b.toNat : Int))
  have e : (B8 M).toArray.setIfInBounds j (.int .u8 (b.toNat : Int)) = (B8 (M.set j b)).toArray := by
    apply Array.ext'
    rw [Array.toList_setIfInBounds]
    exact B8_set M j b
  rw [e] at this
  exact this
theorem M3.mrow {w W : World} {n : Nat} {v : Bool} {l M : List UInt8} (h : M3 w W n v l M) : row? W n 0 6 = some (B8 M) := obj_row (A := []) (M := B8 M) (C := []) (by simpa using h.2.2.1) rfl (by rw [B8_length, h.2.2.2.1])
theorem M2.done {w W : World} {v : Bool} {l : List UInt8} (h : M2 w W v l) (M : List UInt8) (hM : M.length = 6) : row? (aggW W (w.heap.size + 1) (B8 M)) (w.heap.size + 1) 0 6 = some (B8 M) ∧ Below w.heap.size w (aggW W (w.heap.size + 1) (B8 M)) :=
  ⟨aggW_row h.free (by rw [B8_length, hM]), aggW_below h.2.2 (by omega) _⟩
def macB (v : Bool) (l : List UInt8) : List UInt8 := if v then 51 :: 51 :: l.drop 12 else [1, 0, 94, UInt8.ofNat ((l.getD 1 0).toNat % 128), l.getD 2 0, l.getD 3 0]
theorem macB_length (v : Bool) (l : List UInt8) (hl : l.length = 16) : (macB v l).length = 6 := by cases v <;> simp [macB, hl]
theorem mac4_B (l : List UInt8) : mac4V l = B8 (macB false l) := by
  unfold mac4V macB bN B8
  simp [UInt8.toNat_ofNat']
  omega
def macG (v : Bool) (l : List UInt8) : List UInt8 := if grpV v l then macB v l else [0, 0, 0, 0, 0, 0]
theorem macG_length (v : Bool) (l : List UInt8) (hl : l.length = 16) : (macG v l).length = 6 := by unfold macG; split; exact macB_length v l hl; rfl
theorem mac6_any (l : List UInt8) (hl : l.length = 16) (hg : Hid (grpV true l = true)) (w : World) : Calls Tryz.prog 21 #[.agg (addrC true l).toArray] w fun e w' => e = .returned (.tuple #[.agg (B8 (macB true l)).toArray, .bool true]) ∧ Below w.heap.size w w' := by
  have hm0 := M2.start w true l
  rw [show (B8 [0, 0, 0, 0, 0, 0]).toArray = #[.int .u8 0, .int .u8 0, .int .u8 0, .int .u8 0, .int .u8 0, .int .u8 0] from rfl] at hm0
  have HM := zh hm0; clear hm0
  have HC := zh (fun w => group_any true l hl w)
  have hok := fok_bytes [51, 51, 0, 0, 0, 0] 6 rfl
  have hok2 := fok_bytes (macB true l) 6 (macB_length true l hl)
  have hbld : ∀ w0, (aggBuild 32 #[(0, .int .u8 51), (1, .int .u8 51)]).run Tryz.prog w0 = .ok (.agg (B8 [51, 51, 0, 0, 0, 0]).toArray) w0 := bld_run _ _ _ (by kernel_rfl)
  have hsz : (Tryz.prog.info? 5).map (·.size) = some 1 := by kernel_rfl
  have HL := zh hl
  clear hl
  go_enter Tryz.func21, Tryz.ntmps21
  go_upto_region 1 with (fail)
  generalize (w.alloc (.cells (addrC true l).toArray 24)).alloc (.cells _ 32) = W at HM ⊢
  have hr := HM.out.row HL.out
  go_upto_region 5 with (go_at_call 29; refine (HC.out _).mono ?_; rintro e w1 ⟨rfl, hb1⟩; rw [hg.out]; have HM1 := zh (HM.out.below hb1); have k0 := HM1.out.fam; have hf := free_made w1 #[.int .u8 0, .int .u8 0, .int .u8 0, .int .u8 0, .int .u8 0, .int .u8 0] 32 6 (by simp); have H3 := zh (show M3 w (aggW (w1.alloc (.cells #[.int .u8 0, .int .u8 0, .int .u8 0, .int .u8 0, .int .u8 0, .int .u8 0] 32)) w1.heap.size (B8 [51, 51, 0, 0, 0, 0])) w1.heap.size true l [51, 51, 0, 0, 0, 0] from M3.made HM1.out _ rfl); clear hb1 hr)
  generalize aggW (w1.alloc (.cells #[.int .u8 0, .int .u8 0, .int .u8 0, .int .u8 0, .int .u8 0, .int .u8 0] 32)) w1.heap.size _ = W3 at H3 ⊢
  clear hf k0
  generalize w1.heap.size = n at H3 ⊢
  have HP : Hid (∀ j v, (B8 (l.drop 12))[j]? = some v → W3.drew.cell? ((⟨w.heap.size, 13, none⟩ : Addr).add j) = some v) := zh fun j v hv => by
    rw [B8_get] at hv
    have hj : j < 4 := by
      apply Classical.byContradiction; intro hc
      rw [List.getElem?_eq_none (by simp [HL.out]; omega)] at hv
      cases hv
    have hl := HL.out
    have h12 : 12 + j < l.length := by omega
    have := H3.out.at (12 + j) h12
    rw [List.getElem?_drop, List.getElem?_eq_getElem h12] at hv
    rw [Option.map_some, Option.some.injEq] at hv
    rw [← hv]
    show W3.cell? _ = _
    rw [Addr.add_mid, show 13 + j = 1 + (12 + j) by omega]
    exact this
  go_region_law (refine step_copy_splice rfl (.tmp 12) (.tmp 14) 94 94 rfl 5 Tryz.underlying94 hsz (some ⟨n, 2, none⟩) (some ⟨w.heap.size, 13, none⟩) 4 4 4 4 (by simp [Act.eval, Act.put]) (by simp [Act.eval, Act.put]) n 2 (B8 [51, 51, 0, 0, 0, 0]) 32 (ObjAt.drew H3.out.2.2.1) (B8 (l.drop 12)) (by simp [B8_length, HL.out]) (fun _ => ⟨rfl, _, rfl, HP.out⟩) (by simp [B8_length, HL.out]) (B8_one _) n _ (Below.refl _ _) (Nat.le_refl _) ?_; intro w4 hg4 hb4)
  have e4 : splice (B8 [51, 51, 0, 0, 0, 0]) 2 (B8 (l.drop 12)) = B8 (macB true l) := by
    have h4 : (B8 (l.drop 12)).length = 4 := by simp [B8_length, HL.out]
    unfold splice macB
    rw [h4]
    simp [B8]
  have hg5 := hg4.out
  rw [e4] at hg5
  have H4 : Hid (M3 w w4 n true l (macB true l)) := zh (by
    obtain ⟨h1, h2, h3, h5, h6, h7⟩ := H3.out
    exact ⟨(ObjAt.drew h1).below hb4 (by omega), (ObjAt.drew h2).below hb4 h6, hg5, macB_length true l HL.out, h6, (bdrewN h7 1).trans (hb4.mono (by omega))⟩)
  have hmr := H4.out.mrow
  have hf2 := H4.out.m2.free
  clear hg4 hg5 hb4 HP e4
  go_wp2
  obtain ⟨q1, q2⟩ := H4.out.m2.done (macB true l) (macB_length true l HL.out)
  exact bodyPost_ret (results_cell2 Tryz.results21 rfl (ld_some q1 (ldr_mac _ _ _))) rfl ⟨rfl, q2⟩
theorem mac_any (v : Bool) (l : List UInt8) (hl : l.length = 16) (w : World) : Calls Tryz.prog 21 #[.agg (addrC v l).toArray] w fun e w' => e = .returned (.tuple #[.agg (B8 (macG v l)).toArray, .bool (grpV v l)]) ∧ Below w.heap.size w w' := by
  cases hg : grpV v l with
  | false =>
    have e : macG v l = [0, 0, 0, 0, 0, 0] := by unfold macG; rw [hg]; rfl
    rw [e]
    exact mac_none v l hl (zh hg) w
  | true =>
    have e : macG v l = macB v l := by unfold macG; rw [hg]; rfl
    rw [e]
    cases v with
    | true => exact mac6_any l hl (zh hg) w
    | false =>
      have := mac4_any l hl (zh hg) w
      rw [mac4_B] at this
      exact this
end Go.Proofs.YtlbdehegknehiaaGreat

/- A part of the proof. -/
namespace Go.Proofs.YtlbdehegknehiaaGreat
open Go.RowKit
set_option linter.unusedVariables false
set_option linter.unusedSimpArgs false
structure SD where
  kind : Int
  vl : Int
  fr : AD
  tw : AD
  tk : TK
  pro : Int
  hop : Int
  da : List UInt8
  deriving DecidableEq
structure PK where
  fr : AD
  tw : AD
  pro : Int
  hop : Int
  al : Bool
  bd : List UInt8
def zeroS : SD := ⟨0, 0, zeroA, zeroA, zeroT, 0, 0, []⟩
def zeroP : PK := ⟨zeroA, zeroA, 0, 0, false, []⟩
def SD.ok (s : SD) : Prop := adOk s.fr ∧ adOk s.tw ∧ s.tk.ok
def PK.ok (p : PK) : Prop := adOk p.fr ∧ adOk p.tw
def grpA (a : AD) : Bool := grpV a.1 a.2
def goodA (a : AD) : Bool := goodV a.1 a.2
def zerA (a : AD) : Bool := zeroV a.2
def gdT (t : TK) : Bool := good8 t || good9 t
def onL (v : Bool) (k : UInt8) : AD := if v then (true, [255, 2, 0, 0, 0, 0, 0, 0, 0, 0, 0, 0, 0, 0, 0, k]) else (false, [224, 0, 0, k, 0, 0, 0, 0, 0, 0, 0, 0, 0, 0, 0, 0])
theorem onL_ok (v : Bool) (k : UInt8) : adOk (onL v k) := by cases v <;> rfl
def lastN (v : Bool) : Int := if v then 2 else 3
def destT (t : TK) : AD := if t.kind = 1 ∧ zerA t.g = true then onL t.v6 1 else if t.kind = 2 ∧ t.ver = lastN t.v6 then onL t.v6 22 else if t.kind = 3 then onL t.v6 2 else t.g
theorem destT_ok {t : TK} (h : adOk t.g) : adOk (destT t) := by
  unfold destT
  repeat' split
  all_goals first | exact onL_ok _ _ | exact h
def destV (t : TK) : AD := if gdT t then destT t else zeroA
theorem destV_ok {t : TK} (h : adOk t.g) : adOk (destV t) := by
  unfold destV
  split
  · exact destT_ok h
  · exact zeroA_ok
theorem good8_v {t : TK} (h : good8 t = true) : t.v6 = false := by
  unfold good8 at h
  by_cases c : t.v6 = true
  · rw [if_pos (Or.inl c)] at h; cases h
  · simpa using c
theorem good9_v {t : TK} (h : good9 t = true) : t.v6 = true := (good9_cases t h).1
theorem gdT_v6 {t : TK} (h : gdT t = true) (hv : t.v6 = true) : good9 t = true ∧ good8 t = false := by
  unfold gdT at h
  cases h8 : good8 t with
  | true => rw [good8_v h8] at hv; cases hv
  | false => rw [h8] at h; exact ⟨by simpa using h, rfl⟩
def talkR (t : TK) : Bool := t.v6 && good9 t || !t.v6 && good8 t
theorem talkR_eq (t : TK) : talkR t = gdT t := by
  unfold talkR gdT
  cases hv : t.v6 with
  | true =>
    cases h8 : good8 t with
    | true => rw [good8_v h8] at hv; cases hv
    | false => simp
  | false =>
    cases h9 : good9 t with
    | true => rw [good9_v h9] at hv; cases hv
    | false => simp
def destR (t : TK) : AD := if t.kind = 3 then onL t.v6 2 else if t.kind = 1 ∧ zerA t.g = true then onL t.v6 1 else if t.kind = 2 ∧ (t.ver = 3 ∨ t.v6 = true ∧ t.ver = 2) then onL t.v6 22 else t.g
theorem good9_ver {t : TK} (h : good9 t = true) : t.ver ≤ 2 := by
  unfold good9 at h
  by_cases c : t.v6 = false ∨ t.ver < 1 ∨ 2 < t.ver ∨ t.kind < 1 ∨ 3 < t.kind ∨ (t.ver = 2 ∧ t.kind = 3)
  · rw [if_pos c] at h; cases h
  · omega
theorem destR_eq {t : TK} (h : gdT t = true) : destR t = destT t := by
  unfold destR destT lastN
  cases hv : t.v6 with
  | true =>
    have h9 := good9_ver (gdT_v6 h hv).1
    by_cases h3 : t.kind = 3
    · rw [if_pos h3, if_neg (by omega), if_neg (by omega), if_pos h3]
    · rw [if_neg h3, if_neg h3]
      have hq : (t.ver = 3 ∨ True ∧ t.ver = 2) ↔ t.ver = 2 := by constructor; intro h; omega; intro h; exact Or.inr ⟨trivial, h⟩
      simp only [hq, if_true]
  | false =>
    by_cases h3 : t.kind = 3
    · rw [if_pos h3, if_neg (by omega), if_neg (by omega), if_pos h3]
    · rw [if_neg h3, if_neg h3]
      simp
def dataP (s : SD) : PK := ⟨s.fr, s.tw, s.pro, s.hop, false, s.da⟩
def PK.ip (p : PK) : Ip := ⟨0, 0, p.hop, p.pro, p.fr.1, p.fr.2, p.tw.1, p.tw.2, p.al, p.bd⟩
def PK.iq (p : PK) : Ip := ⟨0, 0, p.pro, p.hop, p.fr.1, p.fr.2, p.tw.1, p.tw.2, p.al, p.bd⟩
theorem PK.ip_ok {p : PK} (h : p.ok) : p.ip.ok := h
theorem PK.iq_ok {p : PK} (h : p.ok) : p.iq.ok := h
def goodPk (p : PK) : Bool := if p.tw.1 then p.iq.good6 else p.ip.good
def isTk (p : PK) : Bool := if p.tw.1 then decide (p.pro = 58) && isM p.bd else decide (p.pro = 2)
def mayB (f : AD) (kind : Int) : Bool := !f.1 || (decide (bN f.2 0 = 254) && decide (bN f.2 1 / 64 = 2) || zerA f && decide (kind ≠ 1))
def goodTk (s : SD) : Bool := gdT s.tk && (decide (s.tw = destV s.tk) && (decide (s.fr.1 = s.tk.v6) && mayB s.fr s.tk.kind))
def goodDa (s : SD) : Bool := grpA s.tw && (!isTk (dataP s) && goodPk (dataP s))
def hasT (s : SD) : SD := if s.kind = 1 then ⟨s.kind, s.vl, s.fr, s.tw, s.tk, 0, 0, []⟩ else if s.kind = 2 then ⟨s.kind, s.vl, s.fr, s.tw, zeroT, s.pro, s.hop, s.da⟩ else ⟨s.kind, s.vl, s.fr, s.tw, zeroT, 0, 0, []⟩
def goodK (s : SD) : Bool := if s.kind = 1 then goodTk s else if s.kind = 2 then goodDa s else false
def goodS (s : SD) : Bool := goodK s && (decide (0 ≤ s.vl) && (decide (s.vl ≤ 4094) && (goodA s.fr && (!grpA s.fr && decide (s = hasT s)))))
def needsA (t : TK) : Bool := t.v6 || decide (1 < t.ver)
def pkT (p : PK) : Int := if p.tw.1 then 34525 else 2048
def pkB (p : PK) : List UInt8 := if p.tw.1 then p.iq.wrt6 else p.ip.wrt
def otherS (vl : Int) : SD := ⟨0, vl, zeroA, zeroA, zeroT, 0, 0, []⟩
def pk4 (p : Ip) : PK := ⟨(p.f6, p.fr), (p.t6, Ip.to p), p.pro, p.ttl, p.al, p.bd⟩
def pk6 (p : Ip) : PK := ⟨(p.f6, p.fr), (p.t6, Ip.to p), p.ttl, p.pro, p.al, p.bd⟩
def sayD (vl : Int) (p : PK) : SD := ⟨2, vl, p.fr, p.tw, zeroT, p.pro, p.hop, p.bd⟩
end Go.Proofs.YtlbdehegknehiaaGreat

/- A part of the proof. -/
namespace Go.Proofs.YtlbdehegknehiaaGreat
open Go.RowKit
set_option linter.unusedVariables false
set_option linter.unusedSimpArgs false
def sdC (s : SD) (us ur : Value) : List Value := [.int .i64 s.kind, .int .i64 s.vl] ++ (adC s.fr ++ (adC s.tw ++ (tkC s.tk us ur ++ [.int .i64 s.pro, .int .i64 s.hop, .string (Str s.da)])))
def pkC (p : PK) : List Value := adC p.fr ++ (adC p.tw ++ [.int .i64 p.pro, .int .i64 p.hop, .bool p.al, .string (Str p.bd)])
theorem sdC_length {s : SD} (h1 : adOk s.fr) (h2 : adOk s.tw) (h3 : adOk s.tk.g) (us ur : Value) : (sdC s us ur).length = 65 := by unfold sdC; simp [adC_length h1, adC_length h2, tkC_length h3]
theorem pkC_length {p : PK} (h : p.ok) : (pkC p).length = 38 := by unfold pkC; simp [adC_length h.1, adC_length h.2]
theorem pkC_one (p : PK) : ∀ v ∈ pkC p, v.oneCell' = true := by
  intro v hv
  unfold pkC at hv
  simp only [List.mem_cons, List.mem_append, List.not_mem_nil, or_false] at hv
  rcases hv with hv | hv | rfl | rfl | rfl | rfl
  · exact addrC_one _ _ v hv
  · exact addrC_one _ _ v hv
  all_goals rfl
theorem fok_pk {p : PK} (h : p.ok) : fok (pkC p).toArray 38 = true := by
  have h3 : (pkC p).toArray.all (·.oneCell') = true := all_oneCell_toArray (pkC_one p)
  simp only [fok, h3, Bool.and_true]
  simp [pkC_length h]
theorem sdC_one {s : SD} {us ur : Value} (h1 : us.oneCell' = true) (h2 : ur.oneCell' = true) : ∀ v ∈ sdC s us ur, v.oneCell' = true := by
  intro v hv
  unfold sdC at hv
  simp only [List.mem_cons, List.mem_append, List.not_mem_nil, or_false] at hv
  rcases hv with (rfl | rfl) | hv | hv | hv | rfl | rfl | rfl
  · rfl
  · rfl
  · exact addrC_one _ _ v hv
  · exact addrC_one _ _ v hv
  · exact tkC_one h1 h2 v hv
  all_goals rfl
theorem fok_sd {s : SD} {us ur : Value} (h1 : adOk s.fr) (h2 : adOk s.tw) (h3 : adOk s.tk.g) (k1 : us.oneCell' = true) (k2 : ur.oneCell' = true) : fok (sdC s us ur).toArray 65 = true := by
  have h : (sdC s us ur).toArray.all (·.oneCell') = true := all_oneCell_toArray (sdC_one k1 k2)
  simp only [fok, h, Bool.and_true]
  simp [sdC_length h1 h2 h3]
theorem obj_ce {w : World} {b o : Nat} {L A C : List Value} {x : Value} {t : TypeId} (h : ObjAt w b L.toArray t) (e : L = A ++ (x :: C)) (ho : A.length = o) : w.cell? ⟨b, o, none⟩ = some x := by
  subst e ho
  rw [h.cell, List.getElem?_toArray, List.getElem?_append_right (Nat.le_refl _)]; simp
theorem obj_re {w : World} {b o n : Nat} {L A M C : List Value} {t : TypeId} (h : ObjAt w b L.toArray t) (e : L = A ++ (M ++ C)) (ho : A.length = o) (hn : M.length = n) : row? w b o n = some M := by subst e; exact obj_row h ho hn
theorem obj_keep {w w' : World} {b : Nat} {cs : Array Value} {t : TypeId} (h : ObjAt w b cs t) (hb : Below w.heap.size w w') : ObjAt w' b cs t := h.below hb h.lt
def PV (W : World) (b : Nat) (p : PK) : Prop := row? W b 0 38 = some (pkC p) ∧ row? W b 0 17 = some (adC p.fr) ∧ row? W b 17 17 = some (adC p.tw) ∧ W.cell? ⟨b, 17, none⟩ = some (.bool p.tw.1) ∧ W.cell? ⟨b, 34, none⟩ = some (.int .i64 p.pro) ∧ W.cell? ⟨b, 35, none⟩ = some (.int .i64 p.hop) ∧ W.cell? ⟨b, 36, none⟩ = some (.bool p.al) ∧ W.cell? ⟨b, 37, none⟩ = some (.string (Str p.bd))
theorem PV.of {W : World} {b : Nat} {p : PK} {T : TypeId} (h : ObjAt W b (pkC p).toArray T) (ho : p.ok) : PV W b p := by
  have l1 := adC_length ho.1
  have l2 := adC_length ho.2
  refine ⟨obj_re h (A := []) (C := []) (by simp) rfl (pkC_length ho), obj_re h (A := []) (M := adC p.fr) rfl rfl l1, obj_re h (A := adC p.fr) (M := adC p.tw) rfl l1 l2, obj_ce h (A := adC p.fr) (by unfold pkC; simp only [adC, addrC, List.cons_append]; rfl) l1, ?_, ?_, ?_, ?_⟩
  · exact obj_ce h (A := adC p.fr ++ adC p.tw) (by unfold pkC; rw [List.append_assoc]) (by simp [l1, l2])
  · exact obj_ce h (A := adC p.fr ++ (adC p.tw ++ [.int .i64 p.pro])) (by unfold pkC; simp only [List.append_assoc]; rfl) (by simp [l1, l2])
  · exact obj_ce h (A := adC p.fr ++ (adC p.tw ++ [.int .i64 p.pro, .int .i64 p.hop])) (by unfold pkC; simp only [List.append_assoc]; rfl) (by simp [l1, l2])
  · exact obj_ce h (A := adC p.fr ++ (adC p.tw ++ [.int .i64 p.pro, .int .i64 p.hop, .bool p.al])) (by unfold pkC; simp only [List.append_assoc]; rfl) (by simp [l1, l2])
def SV (W : World) (b : Nat) (s : SD) (us ur : Value) : Prop := (row? W b 0 65 = some (sdC s us ur) ∧ row? W b 2 17 = some (adC s.fr) ∧ row? W b 19 17 = some (adC s.tw) ∧ row? W b 36 26 = some (tkC s.tk us ur)) ∧ (W.cell? ⟨b, 0, none⟩ = some (.int .i64 s.kind) ∧ W.cell? ⟨b, 1, none⟩ = some (.int .i64 s.vl) ∧ W.cell? ⟨b, 2, none⟩ = some (.bool s.fr.1) ∧ W.cell? ⟨b, 19, none⟩ = some (.bool s.tw.1)) ∧ (W.cell? ⟨b, 36, none⟩ = some (.bool s.tk.v6) ∧ W.cell? ⟨b, 37, none⟩ = some (.int .i64 s.tk.ver) ∧ W.cell? ⟨b, 38, none⟩ = some (.int .i64 s.tk.kind)) ∧ W.cell? ⟨b, 62, none⟩ = some (.int .i64 s.pro) ∧ W.cell? ⟨b, 63, none⟩ = some (.int .i64 s.hop) ∧ W.cell? ⟨b, 64, none⟩ = some (.string (Str s.da))
theorem SV.of {W : World} {b : Nat} {s : SD} {us ur : Value} {T : TypeId} (h : ObjAt W b (sdC s us ur).toArray T) (h1 : adOk s.fr) (h2 : adOk s.tw) (h3 : adOk s.tk.g) : SV W b s us ur := by
  have l1 := adC_length h1
  have l2 := adC_length h2
  have l3 := tkC_length h3 us ur
  refine ⟨⟨obj_re h (A := []) (C := []) (by simp) rfl (sdC_length h1 h2 h3 _ _), obj_re h (A := [.int .i64 s.kind, .int .i64 s.vl]) (M := adC s.fr) rfl rfl l1, obj_re h (A := [.int .i64 s.kind, .int .i64 s.vl] ++ adC s.fr) (M := adC s.tw) (by unfold sdC; simp only [List.append_assoc]; rfl) (by simp [l1]) l2, obj_re h (A := [.int .i64 s.kind, .int .i64 s.vl] ++ (adC s.fr ++ adC s.tw)) (M := tkC s.tk us ur) (by unfold sdC; simp only [List.append_assoc]; rfl) (by simp [l1, l2]) l3⟩, ⟨obj_ce h (A := []) rfl rfl, obj_ce h (A := [.int .i64 s.kind]) rfl rfl, obj_ce h (A := [.int .i64 s.kind, .int .i64 s.vl]) (by unfold sdC; simp only [adC, addrC, List.cons_append]; rfl) rfl, ?_⟩, ⟨?_, ?_, ?_⟩, ?_, ?_, ?_⟩
  · exact obj_ce h (A := [.int .i64 s.kind, .int .i64 s.vl] ++ adC s.fr) (by unfold sdC; simp only [adC, addrC, List.cons_append, List.append_assoc, List.nil_append]; rfl) (by simp [l1])
  · exact obj_ce h (A := [.int .i64 s.kind, .int .i64 s.vl] ++ (adC s.fr ++ adC s.tw)) (by unfold sdC tkC; simp only [List.append_assoc]; rfl) (by simp [l1, l2])
  · exact obj_ce h (A := [.int .i64 s.kind, .int .i64 s.vl] ++ (adC s.fr ++ (adC s.tw ++ [.bool s.tk.v6]))) (by unfold sdC tkC; simp only [List.append_assoc]; rfl) (by simp [l1, l2])
  · exact obj_ce h (A := [.int .i64 s.kind, .int .i64 s.vl] ++ (adC s.fr ++ (adC s.tw ++ [.bool s.tk.v6, .int .i64 s.tk.ver]))) (by unfold sdC tkC; simp only [List.append_assoc]; rfl) (by simp [l1, l2])
  · exact obj_ce h (A := [.int .i64 s.kind, .int .i64 s.vl] ++ (adC s.fr ++ (adC s.tw ++ tkC s.tk us ur))) (by unfold sdC; simp only [List.append_assoc]; rfl) (by simp [l1, l2, l3])
  · exact obj_ce h (A := [.int .i64 s.kind, .int .i64 s.vl] ++ (adC s.fr ++ (adC s.tw ++ (tkC s.tk us ur ++ [.int .i64 s.pro])))) (by unfold sdC; simp only [List.append_assoc]; rfl) (by simp [l1, l2, l3])
  · exact obj_ce h (A := [.int .i64 s.kind, .int .i64 s.vl] ++ (adC s.fr ++ (adC s.tw ++ (tkC s.tk us ur ++ [.int .i64 s.pro, .int .i64 s.hop])))) (by unfold sdC; simp only [List.append_assoc]; rfl) (by simp [l1, l2, l3])
def Sds (w : World) (cs : List Value) (s : SD) : Prop := s.ok ∧ s.da.length ≤ maxLen ∧ ∃ us ur, cs = sdC s us ur ∧ Ads w us s.tk.src ∧ Rcs w ur s.tk.rcs
theorem Sds.below {w w' : World} {cs : List Value} {s : SD} (h : Sds w cs s) (hb : Below w.heap.size w w') : Sds w' cs s := by
  obtain ⟨h1, h2, us, ur, h3, h4, h5⟩ := h
  exact ⟨h1, h2, us, ur, h3, h4.below hb, h5.below hb⟩
theorem ld_sd (a : Addr) : loadVar 30 a = aggLd 30 a := rfl
theorem st_sd (a : Addr) (v : Value) : storeVar 30 a v = aggSt 30 a v := rfl
theorem bld_sd (p : Array (Nat × Value)) : Instr.build 30 p = aggBuild 30 p := rfl
theorem ldr_sd (b o : Nat) (w : World) : (aggLd 30 ⟨b, o, none⟩).run Tryz.prog w = match row? w b o 65 with | some cs => .ok (.agg cs.toArray) w | none => aggLdSlow 30 b o w :=
  ld_run Tryz.underlying30 rfl (by kernel_rfl) b o w
theorem str_sd (b : Nat) (cs : Array Value) (w : World) : (aggSt 30 ⟨b, 0, none⟩ (.agg cs)).run Tryz.prog w = match free? w b 0 65 && fok cs 65 with | true => .ok () (aggW w b cs.toList) | false => aggStSlow 30 b 0 (.agg cs) w :=
  st_run (by kernel_rfl) b cs w
theorem ld_pk (a : Addr) : loadVar 58 a = aggLd 58 a := rfl
theorem st_pk (a : Addr) (v : Value) : storeVar 58 a v = aggSt 58 a v := rfl
theorem bld_pk (p : Array (Nat × Value)) : Instr.build 58 p = aggBuild 58 p := rfl
theorem ldr_pk (b o : Nat) (w : World) : (aggLd 58 ⟨b, o, none⟩).run Tryz.prog w = match row? w b o 38 with | some cs => .ok (.agg cs.toArray) w | none => aggLdSlow 58 b o w :=
  ld_run Tryz.underlying58 rfl (by kernel_rfl) b o w
theorem str_pk (b : Nat) (cs : Array Value) (w : World) : (aggSt 58 ⟨b, 0, none⟩ (.agg cs)).run Tryz.prog w = match free? w b 0 38 && fok cs 38 with | true => .ok () (aggW w b cs.toList) | false => aggStSlow 58 b 0 (.agg cs) w :=
  st_run (by kernel_rfl) b cs w
theorem str_tk_at (b o : Nat) (cs : Array Value) (w : World) : (aggSt 28 ⟨b, o, none⟩ (.agg cs)).run Tryz.prog w = match free? w b o 26 && fok cs 26 with | true => .ok () (aggO w b o cs.toList) | false => aggStSlowO 28 b o (.agg cs) w :=
  st_run_at (by kernel_rfl) b o cs w
end Go.Proofs.YtlbdehegknehiaaGreat

/- A part of the proof. -/
namespace Go.Proofs.YtlbdehegknehiaaGreat
open Go.RowKit
set_option linter.unusedVariables false
def IqAt (W : World) (b : Nat) (p : Ip) : Prop := ObjAt W b (ipC p).toArray 75
theorem IqAt.n {W : World} {b : Nat} {p : Ip} (h : IqAt W b p) (j : Nat) (x : Value) (hx : [Value.int .i64 p.tos, .int .i64 p.id, .int .i64 p.ttl, .int .i64 p.pro][j]? = some x) : W.cell? ⟨b, j, none⟩ = some x := by
  have hj : j < 4 := (List.getElem?_eq_some_iff.1 hx).1
  rw [ObjAt.cell h, List.getElem?_toArray]
  unfold ipC
  rw [List.getElem?_append_left hj]
  exact hx
theorem IqAt.tos {W : World} {b : Nat} {p : Ip} (h : IqAt W b p) : W.cell? ⟨b, 0, none⟩ = some (.int .i64 p.tos) := h.n 0 _ rfl
theorem IqAt.id {W : World} {b : Nat} {p : Ip} (h : IqAt W b p) : W.cell? ⟨b, 1, none⟩ = some (.int .i64 p.id) := h.n 1 _ rfl
theorem IqAt.ttl {W : World} {b : Nat} {p : Ip} (h : IqAt W b p) : W.cell? ⟨b, 2, none⟩ = some (.int .i64 p.ttl) := h.n 2 _ rfl
theorem IqAt.pro {W : World} {b : Nat} {p : Ip} (h : IqAt W b p) : W.cell? ⟨b, 3, none⟩ = some (.int .i64 p.pro) := h.n 3 _ rfl
theorem IqAt.f6 {W : World} {b : Nat} {p : Ip} (h : IqAt W b p) : W.cell? ⟨b, 4, none⟩ = some (.bool p.f6) := by
  rw [ObjAt.cell h, List.getElem?_toArray]; rfl
theorem IqAt.t6 {W : World} {b : Nat} {p : Ip} (h : IqAt W b p) (ho : p.ok) : W.cell? ⟨b, 21, none⟩ = some (.bool p.t6) := by
  rw [ObjAt.cell h, List.getElem?_toArray]
  unfold ipC
  rw [List.getElem?_append_right (by simp), List.getElem?_append_right (by simp [addrC_length, ho.1])]
  simp [ho.1, addrC, B8_length]
theorem IqAt.e {W : World} {b : Nat} {p : Ip} (h : IqAt W b p) (ho : p.ok) (j : Nat) (x : Value) (hx : [Value.bool p.al, .string (Str p.bd)][j]? = some x) : W.cell? ⟨b, 38 + j, none⟩ = some x := by
  rw [ObjAt.cell h, List.getElem?_toArray]
  unfold ipC
  rw [List.getElem?_append_right (by simp; omega), List.getElem?_append_right (by simp [addrC_length, ho.1]; omega), List.getElem?_append_right (by simp [addrC_length, ho.1, ho.2]; omega)]
  simp only [List.length_cons, List.length_nil, addrC_length, ho.1, ho.2]
  rw [show 38 + j - (0 + 1 + 1 + 1 + 1) - (16 + 1) - (16 + 1) = j by omega]
  exact hx
theorem IqAt.al {W : World} {b : Nat} {p : Ip} (h : IqAt W b p) (ho : p.ok) : W.cell? ⟨b, 38, none⟩ = some (.bool p.al) := h.e ho 0 _ rfl
theorem IqAt.bd {W : World} {b : Nat} {p : Ip} (h : IqAt W b p) (ho : p.ok) : W.cell? ⟨b, 39, none⟩ = some (.string (Str p.bd)) := h.e ho 1 _ rfl
theorem IqAt.row {W : World} {b : Nat} {p : Ip} (h : IqAt W b p) (ho : p.ok) : row? W b 0 40 = some (ipC p) :=
  obj_row (A := []) (M := ipC p) (C := []) (by simpa [IqAt] using h) rfl (ipC_length ho)
theorem IqAt.rfr {W : World} {b : Nat} {p : Ip} (h : IqAt W b p) (ho : p.ok) : row? W b 4 17 = some (addrC p.f6 p.fr) :=
  obj_row (A := [.int .i64 p.tos, .int .i64 p.id, .int .i64 p.ttl, .int .i64 p.pro]) (M := addrC p.f6 p.fr) (C := addrC p.t6 p.to ++ [.bool p.al, .string (Str p.bd)]) (by simpa [IqAt, ipC] using h) rfl (by rw [addrC_length, ho.1])
theorem IqAt.rto {W : World} {b : Nat} {p : Ip} (h : IqAt W b p) (ho : p.ok) : row? W b 21 17 = some (addrC p.t6 p.to) :=
  obj_row (A := [.int .i64 p.tos, .int .i64 p.id, .int .i64 p.ttl, .int .i64 p.pro] ++ addrC p.f6 p.fr) (M := addrC p.t6 p.to) (C := [.bool p.al, .string (Str p.bd)]) (by simpa [IqAt, ipC] using h) (by simp [addrC_length, ho.1]) (by rw [addrC_length, ho.2])
theorem IqAt.free {W : World} {b : Nat} {p : Ip} (h : IqAt W b p) (ho : p.ok) : free? W b 0 40 = true := obj_free h (by simp [ipC_length ho])
theorem IqAt.frz {W : World} {b : Nat} {p : Ip} (h : IqAt W b p) (j : Nat) : W.frozen? ⟨b, j, none⟩ = false := ObjAt.free h j
theorem IqAt.made (w : World) (p : Ip) : IqAt (w.alloc (.cells (ipC p).toArray 75)) w.heap.size p := ObjAt.made w _ _
theorem IqAt.below {W W' : World} {b : Nat} {p : Ip} (h : IqAt W b p) (hb : Below W.heap.size W W') : IqAt W' b p := ObjAt.below h hb h.lt
def QB (w W : World) (p : Ip) : Prop := IqAt W w.heap.size p ∧ Below w.heap.size w W
theorem QB.made (w : World) (p : Ip) : QB w (w.alloc (.cells (ipC p).toArray 75)) p := ⟨IqAt.made w p, (Below.refl _ _).alloc (Nat.le_refl _) _⟩
theorem QB.keep {w W W' : World} {p : Ip} (h : QB w W p) (hb : Below W.heap.size W W') : QB w W' p := ⟨h.1.below hb, bstep h.2 hb⟩
theorem QB.drewN {w W : World} {p : Ip} (h : QB w W p) (n : Nat) : QB w (W.drewN n) p := h.keep (bdrewN (Below.refl _ _) n)
theorem QB.lt {w W : World} {p : Ip} (h : QB w W p) : w.heap.size < W.heap.size := h.1.lt
theorem bld_iq (p : Array (Nat × Value)) : Instr.build 75 p = aggBuild 75 p := rfl
theorem ld_iq (a : Addr) : loadVar 75 a = aggLd 75 a := rfl
theorem st_iq (a : Addr) (v : Value) : storeVar 75 a v = aggSt 75 a v := rfl
theorem ldr_iq (b o : Nat) (w : World) : (aggLd 75 ⟨b, o, none⟩).run Tryz.prog w = match row? w b o 40 with | some cs => .ok (.agg cs.toArray) w | none => aggLdSlow 75 b o w :=
  ld_run Tryz.underlying75 rfl (by kernel_rfl) b o w
theorem str_iq (b : Nat) (cs : Array Value) (w : World) : (aggSt 75 ⟨b, 0, none⟩ (.agg cs)).run Tryz.prog w = match free? w b 0 40 && fok cs 40 with | true => .ok () (aggW w b cs.toList) | false => aggStSlow 75 b 0 (.agg cs) w :=
  st_run (by kernel_rfl) b cs w
end Go.Proofs.YtlbdehegknehiaaGreat

