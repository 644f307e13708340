/-
  The contracts of addr.print6 and addr.Print.
-/
import Derived.Test.YtalnfjnfcloonaaGreatDoorJoin
import Derived.Test.YtalnfjnfcloonaaGreatDoorMg29
import Derived.Test.YtalnfjnfcloonaaGreatDoorAd2
import Derived.Deep.RegionHeld3
namespace Go.Proofs.YtalnfjnfcloonaaGreatDoor
open Go.RowKit
set_option linter.unusedVariables false
attribute [local go_sem ↓] bld_u8x ld_addr ld_u8x st_u8x
attribute [local go_sem] ldr_addr ldr_u8x str_u8x

/-- A number of two bytes. -/
def wrd (l : List UInt8) (i : Nat) : Nat := (l.getD (2 * i) 0).toNat * 256 + (l.getD (2 * i + 1) 0).toNat
def wordsV (l : List UInt8) : List Nat := (List.range 8).map (wrd l)
theorem wordsV_length (l : List UInt8) : (wordsV l).length = 8 := by simp [wordsV]
theorem wrd_lt (l : List UInt8) (i : Nat) : wrd l i ≤ 65535 := by
  have h1 := (l.getD (2 * i) 0).toNat_lt
  have h2 := (l.getD (2 * i + 1) 0).toNat_lt
  unfold wrd
  omega
theorem wordsV_lt (l : List UInt8) : ∀ n ∈ wordsV l, n ≤ 65535 := fun n hn => by
  obtain ⟨i, _, rfl⟩ := List.mem_map.1 hn
  exact wrd_lt l i
def jn16 (ws : List Nat) : List UInt8 := Lib.join (ws.map (numD 16)) [58]
def jn10 (ns : List Nat) : List UInt8 := Lib.join (ns.map (numD 10)) [46]
def prt6 (l : List UInt8) : List UInt8 :=
  if (gapK (wordsV l) 8).2.1 < 2 then jn16 (wordsV l)
  else jn16 ((wordsV l).take (gapK (wordsV l) 8).1) ++ ([58, 58] ++ jn16 ((wordsV l).drop ((gapK (wordsV l) 8).1 + (gapK (wordsV l) 8).2.1)))
def prtV (v : Bool) (l : List UInt8) : List UInt8 := if v then prt6 l else jn10 ((l.take 4).map (·.toNat))
theorem num_twoP (l : List UInt8) (k : Nat) (h : 2 * k + 1 < l.length) : num ((l.drop (2 * k)).take 2) = wrd l k := by
  have e : (l.drop (2 * k)).take 2 = [l[2 * k]'(by omega), l[2 * k + 1]] := by
    rw [List.drop_eq_getElem_cons (by omega), List.drop_eq_getElem_cons (by omega)]; rfl
  have h1 := (l[2 * k]'(by omega)).toNat_lt
  have h2 := (l[2 * k + 1]).toNat_lt
  rw [e]
  unfold num wrd
  simp only [List.foldl_cons, List.foldl_nil, List.getD_eq_getElem?_getD, List.getElem?_eq_getElem (show 2 * k < l.length by omega), List.getElem?_eq_getElem h, Option.getD_some]
  omega
theorem jn16_small (ws : List Nat) (h : ws.length ≤ 8) : (jn16 ws).length ≤ 48 := by
  have := join_small (ws.map (numD 16)) 58 5 (fun x hx => by obtain ⟨n, _, rfl⟩ := List.mem_map.1 hx; exact numD_length 16 n)
  rw [List.length_map] at this
  unfold jn16
  omega
theorem joinWn (sb o cap n : Nat) (ns : List Nat) (hn : ns.length = n) (hns : ∀ n ∈ ns, n ≤ 65535) (hlen : n ≤ 100) (w : World) (hrow : RowN .u16 w sb o ns) (hsb : sb < w.heap.size) (h : Env w) :
    Calls Tryz.prog 53 #[.slice (some ⟨sb, o, none⟩) n cap, .string (Str [58]), .int .i64 16] w fun e w' => e = .returned (.string (Str (jn16 ns))) ∧ Below w.heap.size w w' := by
  subst hn; exact joinW_any sb o cap ns hns hlen w hrow hsb h
theorem rowN_obj {w : World} {b : Nat} {ws : List Nat} {t : TypeId} (h : ObjAt w b (U16 ws).toArray t) (d n : Nat) : RowN .u16 w b d ((ws.drop d).take n) := fun i hi => by
  have h1 : i < n := by simp at hi; omega
  have h2 : d + i < ws.length := by simp at hi; omega
  rw [h.cell, List.getElem?_toArray]
  simp [U16, h2]
theorem U16_setI (ws : List Nat) (j n : Nat) : (U16 ws).toArray.setIfInBounds j (.int .u16 (n : Int)) = (U16 (ws.set j n)).toArray := by
  rw [List.setIfInBounds_toArray]; simp [U16, List.map_set]
/-- The list, while it is filled. -/
def P6 (w wr : World) (l : List UInt8) (rb lb k : Nat) : Prop :=
  ObjAt wr lb (U16 ((wordsV l).take k ++ List.replicate (8 - k) 0)).toArray 82 ∧ RdAt wr rb (l.drop (2 * k)) (2 * k) false ∧ Below w.heap.size w wr ∧ w.heap.size ≤ rb ∧ w.heap.size ≤ lb ∧ rb ≠ lb
/-- .. behind a number that was read. -/
def P6s (w wr : World) (l : List UInt8) (rb lb k : Nat) : Prop :=
  ObjAt wr lb (U16 ((wordsV l).take k ++ List.replicate (8 - k) 0)).toArray 82 ∧ RdAt wr rb (l.drop (2 * (k + 1))) (2 * (k + 1)) false ∧ Below w.heap.size w wr ∧ w.heap.size ≤ rb ∧ w.heap.size ≤ lb ∧ rb ≠ lb
theorem P6.read {w wr w' : World} {l : List UInt8} {rb lb k : Nat} (h : P6 w wr l rb lb k) (hr : RdAt w' rb ((l.drop (2 * k)).drop 2) (2 * k + 2) false) (hg : wr.grownBy w' (some rb)) : P6s w w' l rb lb k := by
  obtain ⟨h1, h2, h3, h4, h5, h6⟩ := h
  refine ⟨h1.grown hg (by simp; omega), ?_, h3.grown hg h3.size (fun x hx => by cases hx; exact h4), h4, h5, h6⟩
  rw [List.drop_drop] at hr
  exact hr
theorem P6s.cell {w wr : World} {l : List UInt8} {rb lb k : Nat} (h : P6s w wr l rb lb k) (hk : k < 8) : wr.cell? ⟨lb, k, none⟩ = some (.int .u16 0) := by
  have hw := wordsV_length l
  rw [h.1.cell k, List.getElem?_toArray, U16, List.getElem?_map, List.getElem?_append_right (by simp; omega)]
  simp [hw, show min k 8 = k by omega, List.getElem?_replicate_of_lt (show 0 < 8 - k by omega)]
theorem wordsV_get (l : List UInt8) (k : Nat) (hk : k < 8) : (wordsV l)[k]? = some (wrd l k) := by simp [wordsV, hk]
theorem P6s.put {w wr : World} {l : List UInt8} {rb lb k : Nat} (h : P6s w wr l rb lb k) (hk : k < 8) : P6 w (wr.setCell ⟨lb, k, none⟩ (.int .u16 ((wrd l k : Nat) : Int))) l rb lb (k + 1) := by
  obtain ⟨h1, h2, h3, h4, h5, h6⟩ := h
  have hw := wordsV_length l
  have e : ((wordsV l).take k ++ List.replicate (8 - k) 0).set k (wrd l k) = (wordsV l).take (k + 1) ++ List.replicate (8 - (k + 1)) 0 := by
    rw [List.set_append_right _ _ (by simp; omega), show 8 - k = (8 - (k + 1)) + 1 by omega, List.replicate_succ, show k - ((wordsV l).take k).length = 0 by simp; omega, List.set_cons_zero]
    rw [List.take_add_one, wordsV_get l k hk]
    simp
  have o1 := h1.set k (.int .u16 ((wrd l k : Nat) : Int))
  rw [U16_setI, e] at o1
  exact ⟨o1, ObjAt.other h2 ⟨lb, k, none⟩ _ h6, h3.setCell (p := ⟨lb, k, none⟩) h5 _, h4, h5, h6⟩
/-- The list that stands. -/
def PL (w wr : World) (ws : List Nat) (lb : Nat) : Prop := ObjAt wr lb (U16 ws).toArray 82 ∧ Below w.heap.size w wr ∧ lb < wr.heap.size
theorem PL.below {w wr w' : World} {ws : List Nat} {lb : Nat} (h : PL w wr ws lb) (hb : Below wr.heap.size wr w') : PL w w' ws lb := ⟨h.1.below hb h.2.2, bstep h.2.1 hb, Nat.lt_of_lt_of_le h.2.2 hb.size⟩
theorem PL.row0 {w wr : World} {ws : List Nat} {lb : Nat} (h : PL w wr ws lb) (n : Nat) (hn : ws.length = n) : RowN .u16 wr lb 0 ws := by
  have := rowN_obj h.1 0 n
  rwa [List.drop_zero, List.take_of_length_le (by omega)] at this
theorem numr_any (b : Nat) (l : List UInt8) (k : Nat) (hl : l.length ≤ 1000) (hk : k ≤ 1000) (h2 : 2 ≤ l.length) (w : World) (h : RdAt w b l k false) :
    Calls Tryz.prog 51 #[.pointer (some ⟨b, 0, none⟩), .int .i64 2] w fun e w' => e = .returned (.int .u64 (num (l.take 2))) ∧ RdAt w' b (l.drop 2) (k + 2) false ∧ w.grownBy w' (some b) := by
  have c := num_any b l k false 2 (by omega) (by omega) w h
  have e : clampN 2 8 = 2 := rfl
  have e0 : ¬ (l.length : Int) < 2 := by omega
  rw [e] at c
  have e1 : takeV l false ((2 : Nat) : Int) = l.take 2 := by simp [takeV, e0]
  have e2 : leftV l false ((2 : Nat) : Int) = l.drop 2 := by simp [leftV, e0]
  have e3 : pastV l false ((2 : Nat) : Int) k = k + 2 := by simp [pastV, e0]
  have e4 : badV l false ((2 : Nat) : Int) = false := by simp [badV]; omega
  rw [e1, e2, e3, e4] at c
  exact c
set_option maxRecDepth 100000 in
set_option maxHeartbeats 4000000 in
theorem print6_any (l : List UInt8) (hl : l.length = 16) (w : World) (h : Env w) : Calls Tryz.prog 33 #[.agg (addrC true l).toArray] w fun e w' => e = .returned (.string (Str (prt6 l))) ∧ Below w.heap.size w w' := by
  obtain ⟨R, hR⟩ : ∃ R, R = prt6 l := ⟨_, rfl⟩
  rw [← hR]
  have HR := Lib.hid hR; clear hR
  have HE := Lib.hid h; clear h
  have HB := Lib.hid (BoxAt.made w true l hl 36)
  have hok : fok #[.int .u16 0, .int .u16 0, .int .u16 0, .int .u16 0, .int .u16 0, .int .u16 0, .int .u16 0, .int .u16 0] 8 = true := by simp [fok, Value.oneCell']
  have hbld : ∀ w0, (aggBuild 82 #[]).run Tryz.prog w0 = .ok (.agg #[.int .u16 0, .int .u16 0, .int .u16 0, .int .u16 0, .int .u16 0, .int .u16 0, .int .u16 0, .int .u16 0]) w0 := bld_run _ _ _ (by kernel_rfl)
  have HL := Lib.hid hl
  have HY := Lib.hid (fun w => bytes_any true l hl w)
  clear hl
  go_enter Tryz.func33, Tryz.ntmps33
  go_upto_region 1 with (fail)
  have hbx := HB.out
  clear HB
  generalize w.alloc (.cells (addrC true l).toArray 36) = W at hbx ⊢
  have HB := Lib.hid hbx
  obtain ⟨-, -, k2, -, -⟩ := hbx
  go_wp2_with (first
    | (go_at_call 50; refine (HY.out _).mono ?_; rintro e w1 ⟨rfl, hb1⟩; have HB1 := Lib.hid (bstep HB.out.2.2.2.2 hb1); clear hb1 k2 HB)
    | (go_at_call 49; refine (new_any _ _).mono ?_; rintro e w2 ⟨rfl, rfl⟩; refine Hid.out ?_))
  have hr2 : RdAt (w1.alloc (.cells #[.string (Str (bytesV true l)), .int .i64 0, .bool false] 102)) w1.heap.size l 0 false := ObjAt.made w1 _ _
  have hb2 := HB1.out.alloc HB1.out.size (.cells #[.string (Str (bytesV true l)), .int .i64 0, .bool false] 102)
  have hz2 : w1.heap.size < (w1.alloc (.cells #[.string (Str (bytesV true l)), .int .i64 0, .bool false] 102)).heap.size := by simp
  generalize w1.alloc (.cells #[.string (Str (bytesV true l)), .int .i64 0, .bool false] 102) = W2 at hr2 hb2 hz2 ⊢
  have hrb := HB1.out.size
  have hlb : w.heap.size ≤ W2.heap.size := by omega
  have hf2 := free_made W2 #[.int .u16 0, .int .u16 0, .int .u16 0, .int .u16 0, .int .u16 0, .int .u16 0, .int .u16 0, .int .u16 0] 82 8 (by simp)
  have hA := aggW_obj (cs := [.int .u16 0, .int .u16 0, .int .u16 0, .int .u16 0, .int .u16 0, .int .u16 0, .int .u16 0, .int .u16 0]) (ObjAt.made W2 #[.int .u16 0, .int .u16 0, .int .u16 0, .int .u16 0, .int .u16 0, .int .u16 0, .int .u16 0, .int .u16 0] 82) rfl (by intro x hx; simp at hx; rcases hx with rfl; rfl)
  have hrA : ObjAt (aggW (W2.alloc (.cells #[.int .u16 0, .int .u16 0, .int .u16 0, .int .u16 0, .int .u16 0, .int .u16 0, .int .u16 0, .int .u16 0] 82)) W2.heap.size [.int .u16 0, .int .u16 0, .int .u16 0, .int .u16 0, .int .u16 0, .int .u16 0, .int .u16 0, .int .u16 0]) w1.heap.size _ _ := aggW_other (b := W2.heap.size) (ObjAt.alloc (hr2 : ObjAt W2 w1.heap.size #[.string (Str l), .int .i64 0, .bool false] 102) (.cells #[.int .u16 0, .int .u16 0, .int .u16 0, .int .u16 0, .int .u16 0, .int .u16 0, .int .u16 0, .int .u16 0] 82)) [.int .u16 0, .int .u16 0, .int .u16 0, .int .u16 0, .int .u16 0, .int .u16 0, .int .u16 0, .int .u16 0] (by omega)
  have hbA := aggW_below (b := W2.heap.size) (hb2.alloc hlb (.cells #[.int .u16 0, .int .u16 0, .int .u16 0, .int .u16 0, .int .u16 0, .int .u16 0, .int .u16 0, .int .u16 0] 82)) hlb [.int .u16 0, .int .u16 0, .int .u16 0, .int .u16 0, .int .u16 0, .int .u16 0, .int .u16 0, .int .u16 0]
  have HP : Hid (P6 w (aggW (W2.alloc (.cells #[.int .u16 0, .int .u16 0, .int .u16 0, .int .u16 0, .int .u16 0, .int .u16 0, .int .u16 0, .int .u16 0] 82)) W2.heap.size [.int .u16 0, .int .u16 0, .int .u16 0, .int .u16 0, .int .u16 0, .int .u16 0, .int .u16 0, .int .u16 0]) l w1.heap.size W2.heap.size 0) := Lib.hid ⟨hA, hrA, hbA, hrb, hlb, by omega⟩
  clear hr2 hb2 hA hrA hbA
  generalize hW3 : aggW (W2.alloc (.cells #[.int .u16 0, .int .u16 0, .int .u16 0, .int .u16 0, .int .u16 0, .int .u16 0, .int .u16 0, .int .u16 0] 82)) W2.heap.size [.int .u16 0, .int .u16 0, .int .u16 0, .int .u16 0, .int .u16 0, .int .u16 0, .int .u16 0, .int .u16 0] = W3 at HP
  refine Lib.hid ?_
  go_wp2_with fail
  clear hW3 hf2
  generalize w1.heap.size = rb at HP hrb ⊢
  generalize W2.heap.size = lb at HP hlb ⊢
  go_loopw [12] (fun vi wr => ∃ k : Nat, k ≤ 8 ∧ vi = .int .i64 (k : Int) ∧ Hid (P6 w wr l rb lb k)) (fun vi _ => 8 - (intOf vi).toNat)
  case atStart => exact ⟨0, by omega, rfl, HP⟩
  case round _ _ wr =>
    obtain ⟨k, hk, rfl, hq⟩ := hrel
    by_cases hlt : k < 8
    · have Hn := Lib.hid (num_twoP l k (by rw [HL.out]; omega))
      have hwl := wrd_lt l k
      have Hq2 : Hid (∀ w', RdAt w' rb ((l.drop (2 * k)).drop 2) (2 * k + 2) false → wr.grownBy w' (some rb) → P6s w w' l rb lb k) := Lib.hid fun w' a b => P6.read hq.out a b
      have Hs := Lib.hid (fun w' (h : P6s w w' l rb lb k) => P6s.put h (by omega))
      generalize hwd : wrd l k = n at Hn hwl
      have Hwd := Lib.hid hwd; clear hwd
      have hwr : IntKind.u16.wrap (n : Int) = n := by simp only [IntKind.wrap_u16]; omega
      go_wp2_with (go_at_call 51; refine (numr_any rb (l.drop (2 * k)) (2 * k) (by rw [List.length_drop, HL.out]; omega) (by omega) (by rw [List.length_drop, HL.out]; omega) wr hq.out.2.1).mono ?_; rintro e w4 ⟨rfl, hr4, hg4⟩; have HQ4 := Lib.hid (Hq2.out w4 hr4 hg4); rw [Hn.out]; have hc4 := HQ4.out.cell (by omega); have hf4 := HQ4.out.1.free k; clear hr4 hg4)
      go_roundw
      case rel => exact ⟨k + 1, by omega, by go_num, by have := Hs.out w4 HQ4.out; rw [Hwd.out] at this; exact Lib.hid this⟩
      case measure => simp [intOf]; omega
    · have hk8 : k = 8 := by omega
      subst hk8
      rw [show ((8 : Nat) : Int) = 8 from rfl]
      have hobj : ObjAt wr lb (U16 (wordsV l)).toArray 82 := by
        have := hq.out.1
        rwa [Nat.sub_self, List.replicate_zero, List.append_nil, List.take_of_length_le (by rw [wordsV_length]; omega)] at this
      have hrow : row? wr lb 0 8 = some (U16 (wordsV l)) := obj_row (A := []) (C := []) (by simpa using hobj) rfl (by rw [U16_length, wordsV_length])
      have Hx := Lib.hid (show PL w wr (wordsV l) lb from ⟨hobj, hq.out.2.2.1, hobj.lt⟩)
      clear hobj hq
      have Hws := Lib.hid (wordsV_lt l)
      have HG := Lib.hid (gap_any (wordsV l) (wordsV_length l) wr)
      have hle := gapK_le (wordsV l) 8
      have H8 := Lib.hid (wordsV_length l)
      have hR := HR.out
      clear HR
      unfold prt6 at hR
      generalize wordsV l = ws at hrow Hx Hws HG hle H8 hR
      generalize (gapK ws 8).1 = f at HG hle hR
      generalize (gapK ws 8).2.1 = s at HG hle hR
      clear HY HL HP
      obtain ⟨-, -, hfs⟩ := hle
      by_cases hs2 : s < 2
      · rw [if_pos hs2] at hR
        have HR := Lib.hid hR; clear hR
        go_wp2_with (first
          | (go_at_call 52; refine HG.out.mono ?_; rintro e w5 ⟨rfl, hb5⟩; have HX5 := Lib.hid (Hx.out.below hb5); clear hb5 hrow)
          | (go_at_call 53; refine (joinWn lb 0 8 8 ws H8.out Hws.out (by omega) _ (HX5.out.row0 8 H8.out) HX5.out.2.2 (HE.out.below HX5.out.2.1)).mono ?_; rintro e w6 ⟨rfl, hb6⟩; have HX6 := Lib.hid (bstep HX5.out.2.1 hb6); clear hb6))
        go_ret
        exact ⟨by rw [HR.out]; rfl, HX6.out⟩
      · rw [if_neg hs2] at hR
        have HR := Lib.hid hR; clear hR
        have hf8 : (f : Int) ≤ 8 := by omega
        have hfs8 : (f : Int) + (s : Int) ≤ 8 := by omega
        have hne8 : ¬ 8 = f := by omega
        have hs2i : 2 ≤ (s : Int) := by omega
        obtain ⟨q, he⟩ : ∃ q, q = f + s := ⟨_, rfl⟩
        have hw1 : IntKind.i64.wrap ((f : Int) + (s : Int)) = (q : Int) := by simp only [IntKind.wrap_i64]; omega
        have he8 : (q : Int) ≤ 8 := by omega
        rw [← he] at HR
        have C1 : Hid (∀ w', PL w w' ws lb → Calls Tryz.prog 53 #[.slice (some ⟨lb, 0, none⟩) f 8, .string ⟨#[58]⟩, .int .i64 16] w' fun e w'' => e = .returned (.string (Str (jn16 (ws.take f)))) ∧ Below w'.heap.size w' w'') :=
          Lib.hid fun w' hP => joinWn lb 0 8 f (ws.take f) (by rw [List.length_take, H8.out]; omega) (fun n hn => Hws.out n (List.mem_of_mem_take hn)) (by omega) w' (by have := rowN_obj hP.1 0 f; rwa [List.drop_zero] at this) hP.2.2 (HE.out.below hP.2.1)
        have la := jn16_small (ws.take f) (by rw [List.length_take, H8.out]; omega)
        have lb' := jn16_small (ws.drop q) (by rw [List.length_drop, H8.out]; omega)
        have c1 : ∀ w0, (Op.stringOp .add (Str (jn16 (ws.take f))) ⟨#[58, 58]⟩).run Tryz.prog w0 = .ok (.string (Str (jn16 (ws.take f) ++ [58, 58]))) w0 := run_cat (P := Tryz.prog) (jn16 (ws.take f)) [58, 58] (by simp; omega)
        have c2 := run_cat (P := Tryz.prog) (jn16 (ws.take f) ++ [58, 58]) (jn16 (ws.drop q)) (by simp; omega)
        simp only [List.append_assoc] at c2
        have HK : ∀ {w' w'' : World}, PL w w' ws lb → Below w'.heap.size w' w'' → PL w w'' ws lb := fun h hb => h.below hb
        by_cases hee : q = 8
        · have C2 : Hid (∀ w', PL w w' ws lb → Calls Tryz.prog 53 #[.slice (some ⟨lb, 0, none⟩) 0 0, .string ⟨#[58]⟩, .int .i64 16] w' fun e w'' => e = .returned (.string (Str (jn16 (ws.drop q)))) ∧ Below w'.heap.size w' w'') := Lib.hid fun w' hP => by
            have hd : ws.drop q = [] := List.drop_eq_nil_of_le (by rw [H8.out]; omega)
            rw [hd]
            exact joinWn lb 0 0 0 [] rfl (by simp) (by omega) w' (fun i hi => absurd hi (by simp)) hP.2.2 (HE.out.below hP.2.1)
          have hq8 : (q : Int) = 8 := by omega
          have hw2 : IntKind.i64.wrap ((f : Int) + (s : Int)) = 8 := by simp only [IntKind.wrap_i64]; omega
          clear hw1 he8 hq8
          clear he hee hs2 hfs hfs8 la lb' hlb hrb hz2 hlt hk
          go_wp2_with (go_at_call 52; refine HG.out.mono ?_; rintro e' w5 ⟨rfl, hb5⟩; have HX5 := Lib.hid (Hx.out.below hb5); clear hb5 hrow)
          clear HG
          go_region_held3 (fun w' => PL w w' ws lb) (first | assumption | exact HX5.out | exact HX5.out.below (bdrewN (Below.refl _ _) _)) (first
            | (go_at_call 53; ((with_reducible refine (C1.out _ (by first | assumption | exact HX5.out)).mono ?_); rintro e' w6 ⟨rfl, hb6⟩; have hk6 := HK (by first | assumption | exact HX5.out) hb6; clear hb6))
            | (go_at_call 53; ((with_reducible refine (C2.out _ (by first | assumption | exact HX5.out)).mono ?_); rintro e' w7 ⟨rfl, hb7⟩; have hk7 := HK (by first | assumption | exact HX5.out) hb7; clear hb7)))
          go_wp2_with fail
          go_ret
          exact ⟨by rw [HR.out]; rfl, hk7.2.1⟩
        · have hn8 : ¬ 8 = q := fun h => hee h.symm
          have C2 : Hid (∀ w', PL w w' ws lb → Calls Tryz.prog 53 #[.slice (some ⟨lb, q, none⟩) (8 - q) (8 - q), .string ⟨#[58]⟩, .int .i64 16] w' fun e w'' => e = .returned (.string (Str (jn16 (ws.drop q)))) ∧ Below w'.heap.size w' w'') := Lib.hid fun w' hP => by
            have hr := rowN_obj hP.1 q (8 - q)
            rw [List.take_of_length_le (by rw [List.length_drop, H8.out]; omega)] at hr
            exact joinWn lb q (8 - q) (8 - q) (ws.drop q) (by rw [List.length_drop, H8.out]) (fun n hn => Hws.out n (List.mem_of_mem_drop hn)) (by omega) w' hr hP.2.2 (HE.out.below hP.2.1)
          clear he hee hs2 hfs hfs8 la lb' hlb hrb hz2 hlt hk
          go_wp2_with (go_at_call 52; refine HG.out.mono ?_; rintro e' w5 ⟨rfl, hb5⟩; have HX5 := Lib.hid (Hx.out.below hb5); clear hb5 hrow)
          clear HG
          go_region_held3 (fun w' => PL w w' ws lb) (first | assumption | exact HX5.out | exact HX5.out.below (bdrewN (Below.refl _ _) _)) (first
            | (go_at_call 53; ((with_reducible refine (C1.out _ (by first | assumption | exact HX5.out)).mono ?_); rintro e' w6 ⟨rfl, hb6⟩; have hk6 := HK (by first | assumption | exact HX5.out) hb6; clear hb6))
            | (go_at_call 53; ((with_reducible refine (C2.out _ (by first | assumption | exact HX5.out)).mono ?_); rintro e' w7 ⟨rfl, hb7⟩; have hk7 := HK (by first | assumption | exact HX5.out) hb7; clear hb7)))
          go_wp2_with fail
          go_ret
          exact ⟨by rw [HR.out]; rfl, hk7.2.1⟩
end Go.Proofs.YtalnfjnfcloonaaGreatDoor
