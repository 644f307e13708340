/-
  The contract of mld's record.
-/
import Derived.Test.YtgpccgcppbdlpaaGreatMgQ
import Derived.Test.YtgpccgcppbdlpaaGreatMg07
namespace Go.Proofs.YtgpccgcppbdlpaaGreat
open Go.RowKit
set_option linter.unusedVariables false
set_option linter.unusedSimpArgs false
attribute [local go_sem ↓] ld_addr st_addr bld_addr ld_rec st_rec bld_rec
attribute [local go_sem] ldr_addr str_addr str_addr_at ldr_rec str_rec row?_drew_eq

/-- Stores and calls elsewhere leave addresses alone. -/
theorem AdsT.far9 {w w' : World} {v : Value} {l : List AD} {m : Nat} {L : Array Value} {T : TypeId} (h : AdsT w v l) (hm : ObjAt w m L T) (hT : T ≠ 24) (hg : w.grownBy w' (some m)) : AdsT w' v l := by
  have hf : ∀ b o n c, v = .slice (some ⟨b, o, none⟩) n c → some b ≠ some m := fun b o n c e => by
    obtain ⟨h1, cur, fz, h2⟩ := h.2 b o n c e
    intro hb
    simp only [Option.some.injEq] at hb
    subst hb
    unfold ObjAt at hm
    rw [h2] at hm
    simp only [Option.some.injEq, Obj.cells.injEq] at hm
    exact hT hm.2.1.symm
  exact ⟨h.1.grown hg hf, h.2.grown hg hf⟩
theorem bldr_rk9 (k : Int) (w : World) : (aggBuild 62 #[(0, .int .i64 k)]).run Tryz.prog w = .ok (.agg (rcC ⟨k, zeroA, []⟩ (.slice none 0 0)).toArray) w := bld_run _ _ _ (by kernel_rfl) _
theorem rcC_grp9 (x : RC) (u : Value) (ho : adOk x.g) (a : AD) (ha : adOk a) : over (rcC x u) 1 (adC a) = rcC ⟨x.kind, a, x.src⟩ u := by
  unfold over rcC
  have l1 := adC_length ho
  have l2 := adC_length ha
  rw [l2]
  simp only [List.take_succ_cons, List.take_zero, List.drop_succ_cons]
  rw [show 1 + 16 = 17 from rfl, List.drop_append_of_le_length (by omega), List.drop_of_length_le (by omega)]
  simp
theorem rcC_srcs9 (x : RC) (u v : Value) (ls : List AD) (ho : adOk x.g) : (rcC x u).set 18 v = rcC ⟨x.kind, x.g, ls⟩ v := by
  unfold rcC
  have l1 := adC_length ho
  rw [List.set_cons_succ, List.set_append_right _ _ (by omega), l1]
  rfl
/-- The result's block, and a record that is filled. -/
structure RX9 (w W : World) (b0 : Nat) (l : List UInt8) (k : Nat) (bad : Bool) (m : Nat) (x : RC) (u : Value) : Prop where
  rd : RdAt W b0 l k bad
  res : ObjAt W w.heap.size #[.int .i64 0, .bool false, .int .u8 0, .int .u8 0, .int .u8 0, .int .u8 0, .int .u8 0, .int .u8 0, .int .u8 0, .int .u8 0, .int .u8 0, .int .u8 0, .int .u8 0, .int .u8 0, .int .u8 0, .int .u8 0, .int .u8 0, .int .u8 0, .slice none 0 0] 62
  rc : ObjAt W m (rcC x u).toArray 62
  lm : w.heap.size < m
  ok : adOk x.g
  frm : w.grownBy W (some b0)
  l0 : b0 < w.heap.size
theorem RX9.call {w W : World} {b0 m : Nat} {l : List UInt8} {k : Nat} {bad : Bool} {x : RC} {u : Value} {W' : World} {l' : List UInt8} {k' : Nat} {bad' : Bool} (h : RX9 w W b0 l k bad m x u) (hr : RdAt W' b0 l' k' bad') (hg : W.grownBy W' (some b0)) : RX9 w W' b0 l' k' bad' m x u :=
  ⟨hr, ObjAt.grown h.res hg (by have := h.l0; simp; omega), ObjAt.grown h.rc hg (by have := h.l0; have := h.lm; simp; omega), h.lm, h.ok, gtrans h.frm hg, h.l0⟩
theorem RX9.below {w W : World} {b0 m : Nat} {l : List UInt8} {k : Nat} {bad : Bool} {x : RC} {u : Value} {W' : World} (h : RX9 w W b0 l k bad m x u) (hb : Below W.heap.size W W') : RX9 w W' b0 l k bad m x u :=
  ⟨ObjAt.below h.rd hb (ObjAt.lt h.rd), h.res.below hb h.res.lt, h.rc.below hb h.rc.lt, h.lm, h.ok, qbelow h.frm (hb.mono h.frm.size), h.l0⟩
theorem RX9.grp {w W : World} {b0 m : Nat} {l : List UInt8} {k : Nat} {bad : Bool} {x : RC} {u : Value} (h : RX9 w W b0 l k bad m x u) (a : AD) (ha : adOk a) : RX9 w (aggO W m 1 (adC a)) b0 l k bad m ⟨x.kind, a, x.src⟩ u := by
  have lm := h.lm; have lt := h.l0
  have h1 := aggO_obj (o := 1) (cs := adC a) h.rc (by rw [rcC_length h.ok, adC_length ha]; omega) (addrC_one _ _)
  rw [rcC_grp9 x u h.ok a ha] at h1
  exact ⟨aggO_other h.rd _ (by omega), aggO_other h.res _ (by omega), h1, lm, ha, qbelow h.frm (aggO_below (Below.refl _ _) (by omega) _ _), lt⟩
theorem RX9.src {w W : World} {b0 m : Nat} {l : List UInt8} {k : Nat} {bad : Bool} {x : RC} {u : Value} (h : RX9 w W b0 l k bad m x u) (v : Value) (ls : List AD) : RX9 w (W.setCell ⟨m, 18, none⟩ v) b0 l k bad m ⟨x.kind, x.g, ls⟩ v := by
  have lm := h.lm; have lt := h.l0
  have h1 := ObjAt.set h.rc 18 v
  rw [List.setIfInBounds_toArray, rcC_srcs9 x u v ls h.ok] at h1
  exact ⟨ObjAt.other h.rd _ _ (by simp; omega), ObjAt.other h.res _ _ (by simp; omega), h1, lm, h.ok, qbelow h.frm ((Below.refl _ _).setCell (p := ⟨m, 18, none⟩) (by simp; omega) v), lt⟩
theorem RX9.row {w W : World} {b0 m : Nat} {l : List UInt8} {k : Nat} {bad : Bool} {x : RC} {u : Value} (h : RX9 w W b0 l k bad m x u) : row? W m 0 19 = some (rcC x u) := obj_rowk (A := []) (M := rcC x u) (C := []) (by simpa using h.rc) rfl (rcC_length h.ok u)
theorem RX9.free {w W : World} {b0 m : Nat} {l : List UInt8} {k : Nat} {bad : Bool} {x : RC} {u : Value} (h : RX9 w W b0 l k bad m x u) : free? W w.heap.size 0 19 = true := obj_free h.res (by simp)
theorem RX9.freeg {w W : World} {b0 m : Nat} {l : List UInt8} {k : Nat} {bad : Bool} {x : RC} {u : Value} (h : RX9 w W b0 l k bad m x u) : free? W m 1 17 = true := free_of fun j hj => by
  refine ⟨?_, ObjAt.free h.rc (1 + j)⟩
  rw [ObjAt.cell h.rc (1 + j), Array.getElem?_eq_getElem (by simp [rcC_length h.ok]; omega)]; rfl
theorem RX9.s18 {w W : World} {b0 m : Nat} {l : List UInt8} {k : Nat} {bad : Bool} {x : RC} {u : Value} (h : RX9 w W b0 l k bad m x u) : W.cell? ⟨m, 18, none⟩ = some u ∧ W.frozen? ⟨m, 18, none⟩ = false := by
  refine ⟨?_, ObjAt.free h.rc 18⟩
  rw [ObjAt.cell h.rc, List.getElem?_toArray]
  unfold rcC
  rw [show (18 : Nat) = 17 + 1 from rfl, List.getElem?_cons_succ, List.getElem?_append_right (by rw [adC_length h.ok]; omega), adC_length h.ok]
  rfl
/-- The record becomes the result. -/
theorem RX9.done {w W : World} {b0 m : Nat} {l : List UInt8} {k : Nat} {bad : Bool} {x : RC} {u : Value} (h : RX9 w W b0 l k bad m x u) :
    row? (aggW W w.heap.size (rcC x u)) w.heap.size 0 19 = some (rcC x u) ∧ RdAt (aggW W w.heap.size (rcC x u)) b0 l k bad ∧ w.grownBy (aggW W w.heap.size (rcC x u)) (some b0) :=
  ⟨aggW_row h.free (rcC_length h.ok u), aggW_other h.rd _ (by have := h.l0; omega), qbelow h.frm (aggW_below (Below.refl _ _) (by omega) _)⟩
theorem RX9.adst {w W : World} {b0 m : Nat} {l : List UInt8} {k : Nat} {bad : Bool} {x : RC} {u : Value} {v : Value} {ls : List AD} (h : RX9 w W b0 l k bad m x u) (ha : AdsT W v ls) : AdsT (aggW W w.heap.size (rcC x u)) v ls := ha.far9 h.res (by decide) (aggW_grown _ _ _)
theorem RX9.done2 {w W : World} {b0 m : Nat} {l : List UInt8} {k : Nat} {bad : Bool} {x : RC} {u : Value} (h : RX9 w W b0 l k bad m x u) : row? (aggW W w.heap.size (rcC x u)) m 0 19 = some (rcC x u) := by
  have lm := h.lm
  have h1 := aggW_other h.rc (rcC x u) (show m ≠ w.heap.size by omega)
  exact obj_rowk (A := []) (M := rcC x u) (C := []) (by simpa using h1) rfl (rcC_length h.ok u)
/-- Ahead of the record: the result's block. -/
structure RX0 (w W : World) (b0 : Nat) (l : List UInt8) (k : Nat) (bad : Bool) : Prop where
  rd : RdAt W b0 l k bad
  res : ObjAt W w.heap.size #[.int .i64 0, .bool false, .int .u8 0, .int .u8 0, .int .u8 0, .int .u8 0, .int .u8 0, .int .u8 0, .int .u8 0, .int .u8 0, .int .u8 0, .int .u8 0, .int .u8 0, .int .u8 0, .int .u8 0, .int .u8 0, .int .u8 0, .int .u8 0, .slice none 0 0] 62
  frm : w.grownBy W (some b0)
  l0 : b0 < w.heap.size
theorem RX0.start {w : World} {b0 : Nat} {l : List UInt8} {k : Nat} {bad : Bool} (h : RdAt w b0 l k bad) : RX0 w (w.alloc (.cells #[.int .i64 0, .bool false, .int .u8 0, .int .u8 0, .int .u8 0, .int .u8 0, .int .u8 0, .int .u8 0, .int .u8 0, .int .u8 0, .int .u8 0, .int .u8 0, .int .u8 0, .int .u8 0, .int .u8 0, .int .u8 0, .int .u8 0, .int .u8 0, .slice none 0 0] 62)) b0 l k bad :=
  ⟨ObjAt.alloc h _, ObjAt.made w #[.int .i64 0, .bool false, .int .u8 0, .int .u8 0, .int .u8 0, .int .u8 0, .int .u8 0, .int .u8 0, .int .u8 0, .int .u8 0, .int .u8 0, .int .u8 0, .int .u8 0, .int .u8 0, .int .u8 0, .int .u8 0, .int .u8 0, .int .u8 0, .slice none 0 0] 62, qof ((Below.refl _ _).alloc (Nat.le_refl _) _), ObjAt.lt h⟩
theorem RX0.call {w W W' : World} {b0 : Nat} {l l' : List UInt8} {k k' : Nat} {bad bad' : Bool} (h : RX0 w W b0 l k bad) (hr : RdAt W' b0 l' k' bad') (hg : W.grownBy W' (some b0)) : RX0 w W' b0 l' k' bad' :=
  ⟨hr, ObjAt.grown h.res hg (by have := h.l0; simp; omega), gtrans h.frm hg, h.l0⟩
theorem RX0.made {w W : World} {b0 : Nat} {l : List UInt8} {k : Nat} {bad : Bool} (h : RX0 w W b0 l k bad) (n : Int) : RX9 w (aggW (W.alloc (.cells #[.int .i64 0, .bool false, .int .u8 0, .int .u8 0, .int .u8 0, .int .u8 0, .int .u8 0, .int .u8 0, .int .u8 0, .int .u8 0, .int .u8 0, .int .u8 0, .int .u8 0, .int .u8 0, .int .u8 0, .int .u8 0, .int .u8 0, .int .u8 0, .slice none 0 0] 62)) W.heap.size (rcC ⟨n, zeroA, []⟩ (.slice none 0 0))) b0 l k bad W.heap.size ⟨n, zeroA, []⟩ (.slice none 0 0) := by
  have hb := aggW_below ((Below.refl W.heap.size W).alloc (Nat.le_refl _) (.cells #[.int .i64 0, .bool false, .int .u8 0, .int .u8 0, .int .u8 0, .int .u8 0, .int .u8 0, .int .u8 0, .int .u8 0, .int .u8 0, .int .u8 0, .int .u8 0, .int .u8 0, .int .u8 0, .int .u8 0, .int .u8 0, .int .u8 0, .int .u8 0, .slice none 0 0] 62)) (Nat.le_refl _) (rcC ⟨n, zeroA, []⟩ (.slice none 0 0))
  exact ⟨ObjAt.below h.rd hb (ObjAt.lt h.rd), h.res.below hb h.res.lt, aggW_obj (L := (#[.int .i64 0, .bool false, .int .u8 0, .int .u8 0, .int .u8 0, .int .u8 0, .int .u8 0, .int .u8 0, .int .u8 0, .int .u8 0, .int .u8 0, .int .u8 0, .int .u8 0, .int .u8 0, .int .u8 0, .int .u8 0, .int .u8 0, .int .u8 0, .slice none 0 0] : Array Value).toList) (by simpa using ObjAt.made W #[.int .i64 0, .bool false, .int .u8 0, .int .u8 0, .int .u8 0, .int .u8 0, .int .u8 0, .int .u8 0, .int .u8 0, .int .u8 0, .int .u8 0, .int .u8 0, .int .u8 0, .int .u8 0, .int .u8 0, .int .u8 0, .int .u8 0, .int .u8 0, .slice none 0 0] 62) (by rw [rcC_length zeroA_ok]; rfl) (rcC_one rfl), h.res.lt, zeroA_ok, qbelow h.frm (hb.mono h.frm.size), h.l0⟩
/-- What record's errors are. -/
def recQE9 (s : List UInt8) (i : Nat) : Int := if s.length < i + 20 then 3 else if srcsE9 s (i + 20) (wd s (i + 2)) ≠ 0 then srcsE9 s (i + 20) (wd s (i + 2)) else if s.length < recN9 s i then 3 else 0
/-- What record tells. -/
def RecV (w W' : World) (b0 : Nat) (s : List UInt8) (i k : Nat) (x : Ending) : Prop :=
  ∃ (r : RC) (u : Value) (e : Int) (l' : List UInt8) (k' : Nat) (bad' : Bool), x = .returned (.tuple #[.agg (rcC r u).toArray, .int .i64 e]) ∧ e = recQE9 s i ∧ adOk r.g ∧ AdsT W' u r.src ∧ RdAt W' b0 l' k' bad' ∧ w.grownBy W' (some b0) ∧ (e = 0 → r = rec9 s i ∧ l' = s.drop (recN9 s i) ∧ k' ≤ recN9 s i ∧ bad' = false)
set_option maxRecDepth 100000 in
set_option maxHeartbeats 4000000 in
theorem m9rec_short (w : World) (b0 : Nat) (s : List UInt8) (i k : Nat) (hk : k ≤ i) (l1 l2 l3 l4 : List UInt8) (k1 k2 k3 k4 n1 n2 n3 : Nat) (b1 b2 b3 : Bool) (a : AD) (hs : s.length ≤ 100000) (h : RdAt w b0 (s.drop i) k false)
    (hN1 : RNum b0 (s.drop i) k false 1 n1 l1 k1 b1) (hN2 : RNum b0 l1 k1 b1 1 n2 l2 k2 b2) (hN3 : RNum b0 l2 k2 b2 2 n3 l3 k3 b3) (hA : RAdr b0 l3 k3 b3 a l4 k4 true) (ha : adOk a) (hE : recQE9 s i = 3) :
    Calls Tryz.prog 86 #[rp b0] w fun x W' => RecV w W' b0 s i k x := by
  have HN1 := Lib.hid hN1
  have HN2 := Lib.hid hN2
  have HN3 := Lib.hid hN3
  have HA := Lib.hid hA
  have HBD := Lib.hid (fun W (h : RdAt W b0 l4 k4 true) => bad_any b0 l4 k4 true W h)
  have H0 := Lib.hid (RX0.start h)
  have hbk := bldr_rk9 (n1 : Int)
  have hfk : fok (rcC ⟨n1, zeroA, []⟩ (.slice none 0 0)).toArray 19 = true := fok_rec zeroA_ok rfl
  have hfa : fok (adC a).toArray 17 = true := fok_addr _ _ ha
  have HAA := Lib.hid ha
  have HQE := Lib.hid hE
  clear hN1 hN2 hN3 hA h ha
  go_enter Tryz.func86, Tryz.ntmps86
  go_upto_region 1 with (fail)
  generalize w.alloc (.cells #[.int .i64 0, .bool false, .int .u8 0, .int .u8 0, .int .u8 0, .int .u8 0, .int .u8 0, .int .u8 0, .int .u8 0, .int .u8 0, .int .u8 0, .int .u8 0, .int .u8 0, .int .u8 0, .int .u8 0, .int .u8 0, .int .u8 0, .int .u8 0, .slice none 0 0] 62) = W at H0 ⊢
  have hfm : ∀ W : World, free? (W.alloc (.cells #[.int .i64 0, .bool false, .int .u8 0, .int .u8 0, .int .u8 0, .int .u8 0, .int .u8 0, .int .u8 0, .int .u8 0, .int .u8 0, .int .u8 0, .int .u8 0, .int .u8 0, .int .u8 0, .int .u8 0, .int .u8 0, .int .u8 0, .int .u8 0, .slice none 0 0] 62)) W.heap.size 0 19 = true := fun W => free_made W _ _ 19 (by simp)
  go_upto_region 2 with (go_at_call 81; (with_reducible refine (HN1.out _ H0.out.rd).mono ?_); rintro x w1 ⟨rfl, h9, k9⟩; have H1 := Lib.hid (H0.out.call h9 k9); clear h9 k9)
  have H2 := Lib.hid (H1.out.made (n1 : Int))
  generalize aggW (w1.alloc (.cells #[.int .i64 0, .bool false, .int .u8 0, .int .u8 0, .int .u8 0, .int .u8 0, .int .u8 0, .int .u8 0, .int .u8 0, .int .u8 0, .int .u8 0, .int .u8 0, .int .u8 0, .int .u8 0, .int .u8 0, .int .u8 0, .int .u8 0, .int .u8 0, .slice none 0 0] 62)) w1.heap.size _ = W2 at H2 ⊢
  generalize w1.heap.size = m at H2 ⊢
  clear hfm hfk hbk H0 H1
  go_upto_region 3 with (first | (go_at_call 81; (with_reducible refine (HN2.out _ H2.out.rd).mono ?_); rintro x w3 ⟨rfl, h9, k9⟩; have H3 := Lib.hid (H2.out.call h9 k9); clear h9 k9) | (go_at_call 81; (with_reducible refine (HN3.out _ H3.out.rd).mono ?_); rintro x w4 ⟨rfl, h9, k9⟩; have H4 := Lib.hid (H3.out.call h9 k9); clear h9 k9))
  have fg := H4.out.freeg
  go_upto_region 4 with (go_at_call 83; (with_reducible refine (HA.out _ H4.out.rd).mono ?_); rintro x w5 ⟨rfl, h9, k9⟩; have H5 := Lib.hid (H4.out.call h9 k9); clear h9 k9 fg; have fg := H5.out.freeg)
  have H6 := Lib.hid (H5.out.grp a HAA.out)
  generalize aggO w5 m 1 _ = W6 at H6 ⊢
  clear fg hfa H2 H3 H4 H5
  have hrow := H6.out.row
  have hfr := H6.out.free
  have hfs : fok (rcC ⟨n1, a, []⟩ (.slice none 0 0)).toArray 19 = true := fok_rec HAA.out rfl
  go_upto_region 5 with (go_at_call 84; (with_reducible refine (HBD.out _ H6.out.rd).mono ?_); rintro x w7 ⟨rfl, hw⟩; subst hw)
  repeat (first | go_values | go_skip | go_guarded | go_step | go_upon | go_in)
  obtain ⟨q1, q2, q3⟩ := H6.out.done
  exact bodyPost_ret (results_cell2 Tryz.results86 rfl (ld_some q1 (ldr_rec _ _ _))) rfl ⟨⟨n1, a, []⟩, _, 3, _, _, _, rfl, HQE.out.symm, HAA.out, H6.out.adst (AdsT.nil _), q2, q3, fun h => by simp at h⟩
set_option maxRecDepth 100000 in
set_option maxHeartbeats 4000000 in
theorem m9rec_good (w : World) (b0 : Nat) (s : List UInt8) (i k : Nat) (hk : k ≤ i) (l1 l2 l3 : List UInt8) (k1 k2 k3 n1 n2 n3 : Nat) (b1 b2 b3 : Bool) (a : AD) (hs : s.length ≤ 100000) (h : RdAt w b0 (s.drop i) k false)
    (hN1 : RNum b0 (s.drop i) k false 1 n1 l1 k1 b1) (hN2 : RNum b0 l1 k1 b1 1 n2 l2 k2 b2) (hN3 : RNum b0 l2 k2 b2 2 n3 l3 k3 b3) (hA : RAdr b0 l3 k3 b3 a (s.drop (i + 20)) (k + 20) false) (ha : adOk a) (h8 : i + 20 ≤ s.length) (e1 : n1 = by8 s i) (e2 : n2 = by8 s (i + 1)) (e3 : n3 = wd s (i + 2)) (ea : a = sixL s (i + 4)) :
    Calls Tryz.prog 86 #[rp b0] w fun x W' => RecV w W' b0 s i k x := by
  have HN1 := Lib.hid hN1
  have HN2 := Lib.hid hN2
  have HN3 := Lib.hid hN3
  have HA := Lib.hid hA
  have HBD := Lib.hid (fun W (h : RdAt W b0 (s.drop (i + 20)) (k + 20) false) => bad_any b0 (s.drop (i + 20)) (k + 20) false W h)
  have H0 := Lib.hid (RX0.start h)
  have hbk := bldr_rk9 (n1 : Int)
  have hfk : fok (rcC ⟨n1, zeroA, []⟩ (.slice none 0 0)).toArray 19 = true := fok_rec zeroA_ok rfl
  have hfa : fok (adC a).toArray 17 = true := fok_addr _ _ ha
  have HAA := Lib.hid ha
  have hwd := wd_lt s (i + 2) (by omega)
  have hb8 := by8_lt s (i + 1)
  rw [← e3] at hwd
  rw [← e2] at hb8
  have HSR := Lib.hid (fun W h => m9sources_any b0 s (i + 20) (k + 20) n3 hs (by omega) (by omega) (by omega) W h)
  have HRN := Lib.hid (show recN9 s i = i + 20 + 16 * n3 + 4 * n2 by unfold recN9; rw [e2, e3])
  have HR1 := Lib.hid (show ∀ ls, ls = srcsL9 s (i + 20) n3 → (⟨n1, a, ls⟩ : RC) = rec9 s i by intro ls hls; unfold rec9; rw [e1, ea, hls, e3])
  have HQ1 := Lib.hid (show srcsE9 s (i + 20) n3 ≠ 0 → srcsE9 s (i + 20) n3 = recQE9 s i by intro h; unfold recQE9; rw [if_neg (by omega), ← e3, if_pos h])
  have HQ2 := Lib.hid (show srcsE9 s (i + 20) n3 = 0 → (if s.length < recN9 s i then (3 : Int) else 0) = recQE9 s i by
    intro h
    have h1 : ¬ s.length < i + 20 := by omega
    unfold recQE9
    simp only [h1, if_false, ← e3, h, ne_eq, not_true_eq_false])
  have hw4 : IntKind.i64.wrap (4 * (n2 : Int)) = 4 * (n2 : Int) := by simp only [IntKind.wrap_i64]; omega
  have HTK : Hid (srcsE9 s (i + 20) n3 = 0 → ∃ (l6 : List UInt8) (k6 : Nat) (b6 : Bool), RTk b0 (s.drop (i + 20 + 16 * n3)) (k + 20 + 16 * n3) false (4 * (n2 : Int)) l6 k6 b6 ∧ (if b6 then (3 : Int) else 0) = recQE9 s i ∧ (b6 = false → l6 = s.drop (recN9 s i) ∧ k6 ≤ recN9 s i)) := Lib.hid fun h0 => by
    have hle : i + 20 + 16 * n3 ≤ s.length := by
      unfold srcsE9 at h0
      split at h0
      · cases h0
      · split at h0
        · cases h0
        · omega
    have hcast : (4 * (n2 : Int)) = ((4 * n2 : Nat) : Int) := by omega
    by_cases hg : 4 * n2 ≤ (s.drop (i + 20 + 16 * n3)).length
    · obtain ⟨f1, f2, f3, f4⟩ := rd_good (l := s.drop (i + 20 + 16 * n3)) (n := 4 * n2) (k := k + 20 + 16 * n3) hg
      refine ⟨s.drop (recN9 s i), k + 20 + 16 * n3 + 4 * n2, false, fun W hW => ?_, ?_, fun _ => ⟨rfl, by rw [HRN.out]; omega⟩⟩
      · have := take_any b0 _ _ false ((4 * n2 : Nat) : Int) (by simp; omega) (by omega) W hW
        rw [f1, f2, f3, f4, List.drop_drop] at this
        rw [hcast, HRN.out]
        exact this.mono fun x w' h => ⟨⟨_, h.1⟩, h.2⟩
      · rw [← HQ2.out h0, if_neg (show ¬ (false = true) by simp), if_neg (show ¬ s.length < recN9 s i by rw [HRN.out]; simp at hg; omega)]
    · obtain ⟨f1, f2, f3, f4⟩ := rd_short (l := s.drop (i + 20 + 16 * n3)) (n := 4 * n2) (k := k + 20 + 16 * n3) (by omega)
      refine ⟨s.drop (i + 20 + 16 * n3), k + 20 + 16 * n3, true, fun W hW => ?_, ?_, fun h => by cases h⟩
      · have := take_any b0 _ _ false ((4 * n2 : Nat) : Int) (by simp; omega) (by omega) W hW
        rw [f1, f2, f3, f4] at this
        rw [hcast]
        exact this.mono fun x w' h => ⟨⟨_, h.1⟩, h.2⟩
      · rw [← HQ2.out h0, if_pos (show true = true from rfl), if_pos (show s.length < recN9 s i by rw [HRN.out]; simp at hg; omega)]
  clear e1 e2 e3 ea hwd hb8 h8 hs
  clear hN1 hN2 hN3 hA h ha
  go_enter Tryz.func86, Tryz.ntmps86
  go_upto_region 1 with (fail)
  generalize w.alloc (.cells #[.int .i64 0, .bool false, .int .u8 0, .int .u8 0, .int .u8 0, .int .u8 0, .int .u8 0, .int .u8 0, .int .u8 0, .int .u8 0, .int .u8 0, .int .u8 0, .int .u8 0, .int .u8 0, .int .u8 0, .int .u8 0, .int .u8 0, .int .u8 0, .slice none 0 0] 62) = W at H0 ⊢
  have hfm : ∀ W : World, free? (W.alloc (.cells #[.int .i64 0, .bool false, .int .u8 0, .int .u8 0, .int .u8 0, .int .u8 0, .int .u8 0, .int .u8 0, .int .u8 0, .int .u8 0, .int .u8 0, .int .u8 0, .int .u8 0, .int .u8 0, .int .u8 0, .int .u8 0, .int .u8 0, .int .u8 0, .slice none 0 0] 62)) W.heap.size 0 19 = true := fun W => free_made W _ _ 19 (by simp)
  go_upto_region 2 with (go_at_call 81; (with_reducible refine (HN1.out _ H0.out.rd).mono ?_); rintro x w1 ⟨rfl, h9, k9⟩; have H1 := Lib.hid (H0.out.call h9 k9); clear h9 k9)
  have H2 := Lib.hid (H1.out.made (n1 : Int))
  generalize aggW (w1.alloc (.cells #[.int .i64 0, .bool false, .int .u8 0, .int .u8 0, .int .u8 0, .int .u8 0, .int .u8 0, .int .u8 0, .int .u8 0, .int .u8 0, .int .u8 0, .int .u8 0, .int .u8 0, .int .u8 0, .int .u8 0, .int .u8 0, .int .u8 0, .int .u8 0, .slice none 0 0] 62)) w1.heap.size _ = W2 at H2 ⊢
  generalize w1.heap.size = m at H2 ⊢
  clear hfm hfk hbk H0 H1
  go_upto_region 3 with (first | (go_at_call 81; (with_reducible refine (HN2.out _ H2.out.rd).mono ?_); rintro x w3 ⟨rfl, h9, k9⟩; have H3 := Lib.hid (H2.out.call h9 k9); clear h9 k9) | (go_at_call 81; (with_reducible refine (HN3.out _ H3.out.rd).mono ?_); rintro x w4 ⟨rfl, h9, k9⟩; have H4 := Lib.hid (H3.out.call h9 k9); clear h9 k9))
  have fg := H4.out.freeg
  go_upto_region 4 with (go_at_call 83; (with_reducible refine (HA.out _ H4.out.rd).mono ?_); rintro x w5 ⟨rfl, h9, k9⟩; have H5 := Lib.hid (H4.out.call h9 k9); clear h9 k9 fg; have fg := H5.out.freeg)
  have H6 := Lib.hid (H5.out.grp a HAA.out)
  generalize aggO w5 m 1 _ = W6 at H6 ⊢
  clear fg hfa H2 H3 H4 H5
  have hrow := H6.out.row
  have hfr := H6.out.free
  have hfs : fok (rcC ⟨n1, a, []⟩ (.slice none 0 0)).toArray 19 = true := fok_rec HAA.out rfl
  go_upto_region 7 with (first
    | (go_at_call 84; (with_reducible refine (HBD.out _ H6.out.rd).mono ?_); rintro x w7 ⟨rfl, hw⟩; subst hw)
    | (go_at_call 104; (with_reducible refine (HSR.out _ H6.out.rd).mono ?_); rintro x w8 ⟨v, e, ls, l5, k5, b5, rfl, he, hv, hrd, hgr, _, _, h0⟩; have H8 := Lib.hid (H6.out.call hrd hgr); have HV := Lib.hid hv; have HE := Lib.hid he; have HZ := Lib.hid h0; clear hrd hgr hv he h0))
  obtain ⟨pv9, cv9, hvv, _, _⟩ := HV.out.1.len
  subst hvv
  clear hrow hfr
  have hrow := H8.out.row
  have hfr := H8.out.free
  by_cases he : e = 0
  · obtain ⟨z1, z2, z3, z4⟩ := HZ.out he
    subst z2 z3 z4
    obtain ⟨l6, k6, b6, t1, t2, t3⟩ := HTK.out (by rw [← HE.out]; exact he)
    have HT := Lib.hid t1
    have HT2 := Lib.hid t2
    have HT3 := Lib.hid t3
    have HLS := Lib.hid z1
    clear t1 t2 t3 z1
    have te : (e != 0) = false := by simp [he]
    obtain ⟨g18, g18f⟩ := H8.out.s18
    have H9 := Lib.hid (H8.out.src (.slice pv9 ls.length cv9) ls)
    have HV9 := Lib.hid (HV.out.far9 H8.out.rc (by decide) (gset w8 m 18 (.slice pv9 ls.length cv9)))
    go_upto_region 10 with (fail)
    generalize World.setCell w8 _ _ = w10 at H9 HV9 ⊢
    clear hrow hfr g18 g18f
    obtain ⟨ec, hec⟩ : ∃ ec : Int, ec = if b6 then 3 else 0 := ⟨_, rfl⟩
    have HEC := Lib.hid hec
    have HEND : Hid (∀ W, RdAt W b0 l6 k6 b6 → Calls Tryz.prog 105 #[rp b0] W fun x w' => x = .returned (.int .i64 ec) ∧ W = w') := Lib.hid fun W h => by rw [hec]; exact rend_any b0 l6 k6 b6 W h
    clear hec
    go_upto_region 11 with (go_at_call 82; (with_reducible refine (HT.out _ H9.out.rd).mono ?_); rintro x w9 ⟨⟨tt, rfl⟩, h9, k9⟩; have HB := Lib.hid (H9.out.call h9 k9); have HVB := Lib.hid (HV9.out.far9 H9.out.rd (by decide) k9); clear h9 k9)
    clear hfs
    have hfs : fok (rcC ⟨n1, a, ls⟩ (.slice pv9 ls.length cv9)).toArray 19 = true := fok_rec HAA.out rfl
    refine wp_region_held_drew (S := fun W => row? W m 0 19 = some (rcC ⟨n1, a, ls⟩ (.slice pv9 ls.length cv9))) (by kernel_rfl) (HB.out.row) (fun hHeld => ?_)
    have Hq := Lib.hid (show RX9 w w9.drew b0 _ _ _ _ _ _ from HB.out.below ⟨rfl, rfl, rfl, Nat.le_refl _, fun _ _ => rfl⟩)
    have HVQ := Lib.hid (show AdsT w9.drew _ _ from HVB.out.below ⟨rfl, rfl, rfl, Nat.le_refl _, fun _ _ => rfl⟩)
    generalize World.drew w9 = Wq at Hq HVQ hHeld ⊢
    refine wpAnyH_take (i := 0) (oi := { dst := some 38, op := _, type := _, pos := _, after := _, guard := _ }) (v := ?hv61) rfl (by kernel_rfl) (by kernel_rfl) (by kernel_rfl) (fun _ _ _ h => h) (Or.inl ⟨by rfl, ?hy61⟩) (by assumption) ?hr61
    case hy61 => (intro w hSw; go_simp; try with_reducible rfl)
    try simp only [Act.put, List.setIfInBounds_toArray, List.set_cons_zero, List.set_cons_succ]
    refine wpAnyH_take (i := 1) (oi := { dst := some 39, op := _, type := _, pos := _, after := _, guard := _ }) (v := ?hv62) rfl (by kernel_rfl) (by kernel_rfl) (by kernel_rfl) (fun _ _ _ h => h) (Or.inl ⟨by rfl, ?hy62⟩) (by assumption) ?hr62
    case hy62 => (intro w hSw; go_simp; try with_reducible rfl)
    try simp only [Act.put, List.setIfInBounds_toArray, List.set_cons_zero, List.set_cons_succ]
    refine wpAnyH_ready (rs := [2]) (by kernel_rfl) (by simp) (AllReadyH.cons (o := _) rfl (fun K hK => ?_) AllReadyH.nil)
    go_simp
    go_at_call 105; (with_reducible refine (HEND.out _ Hq.out.rd).mono ?_); rintro x wa ⟨rfl, h9⟩; subst h9; have HVC := Lib.hid (show AdsT Wq _ _ from HVQ.out); have HC := Hq; have hfc := HC.out.free
    try go_wp2_with fail
    refine hK.out _ _ (HC.out.row) (fun hHeld => ?_)
    clear hK K
    try simp only [Act.put, List.setIfInBounds_toArray, List.set_cons_zero, List.set_cons_succ]
    refine wpAnyH_ready (rs := [3]) (by kernel_rfl) (by simp) (AllReadyH.cons (o := _) rfl (fun K hK => ?_) AllReadyH.nil)
    go_simp
    refine hK.out _ _ (HC.out.done2) (fun hHeld => ?_)
    clear hK K
    try simp only [Act.put, List.setIfInBounds_toArray, List.set_cons_zero, List.set_cons_succ]
    have HD := Lib.hid HC.out.done
    refine wpAnyH_take (i := 4) (oi := { dst := some 3, op := _, type := _, pos := _, after := _, guard := _ }) (v := ?hv63) rfl (by kernel_rfl) (by kernel_rfl) (by kernel_rfl) (fun _ _ _ h => h) (Or.inl ⟨by rfl, ?hy63⟩) (by assumption) ?hr63
    case hy63 => (intro w hSw; go_simp; try with_reducible rfl)
    try simp only [Act.put, List.setIfInBounds_toArray, List.set_cons_zero, List.set_cons_succ]
    refine wpAnyH_done (by kernel_rfl) ?_ _
    repeat (first | go_values | go_skip | go_guarded | go_step | go_upon | go_in)
    obtain ⟨q1, q2, q3⟩ := HD.out
    refine bodyPost_ret (results_cell2 Tryz.results86 rfl (ld_some q1 (ldr_rec _ _ _))) rfl ⟨⟨n1, a, ls⟩, _, ec, _, _, _, rfl, by rw [HEC.out]; exact HT2.out, HAA.out, HC.out.adst HVC.out, q2, q3, fun h => ?_⟩
    have hb : b6 = false := by
      rw [HEC.out] at h
      cases b6 with
      | true => simp at h
      | false => rfl
    obtain ⟨y1, y2⟩ := HT3.out hb
    exact ⟨HR1.out ls HLS.out, y1, y2, hb⟩
  · have te : (e != 0) = true := by simpa using he
    have HNE := Lib.hid he
    clear he
    repeat (first | go_values | go_skip | go_guarded | go_step | go_upon | go_in)
    obtain ⟨q1, q2, q3⟩ := H8.out.done
    exact bodyPost_ret (results_cell2 Tryz.results86 rfl (ld_some q1 (ldr_rec _ _ _))) rfl ⟨⟨n1, a, []⟩, _, e, _, _, _, rfl, by rw [HE.out]; exact HQ1.out (by rw [← HE.out]; exact HNE.out), HAA.out, H8.out.adst (AdsT.nil _), q2, q3, fun h => absurd h HNE.out⟩
theorem ex_rnum (b0 : Nat) (l : List UInt8) (k : Nat) (bad : Bool) (wd m : Nat) (h4 : wd ≤ 4) (hm : wd ≤ m) (hl : l.length ≤ 1000000) (hk : k ≤ 200000) (hP : bad = true ∨ l.length < m) :
    ∃ (n : Nat) (l' : List UInt8) (k' : Nat) (bad' : Bool), RNum b0 l k bad wd n l' k' bad' ∧ l'.length ≤ l.length ∧ k' ≤ k + wd ∧ (bad' = true ∨ l'.length < m - wd) := by
  refine ⟨num (takeV l bad wd), leftV l bad wd, pastV l bad wd k, badV l bad wd, m9num_any b0 l k bad wd h4 hl (by omega), leftV_le _ _ _, pastV_le _ _ _ _, ?_⟩
  cases bad with
  | true => left; exact (rd_dead (l := l) (n := (wd : Int)) (k := k)).2.2.2
  | false =>
    by_cases h : wd ≤ l.length
    · right
      rw [(rd_good (k := k) h).2.1, List.length_drop]
      rcases hP with h1 | h1
      · cases h1
      · omega
    · left; exact (rd_short (l := l) (n := wd) (k := k) (by omega)).2.2.2
/-- The record at a place. -/
theorem m9record_any (b0 : Nat) (s : List UInt8) (i k : Nat) (hk : k ≤ i) (hs : s.length ≤ 100000) (hi : i ≤ s.length) (w : World) (h : RdAt w b0 (s.drop i) k false) :
    Calls Tryz.prog 86 #[rp b0] w fun x W' => RecV w W' b0 s i k x := by
  by_cases h8 : i + 20 ≤ s.length
  · have p1 := rnum_good b0 s i k 1 (by omega) hk (by omega) (by omega)
    have p2 := rnum_good b0 s (i + 1) (k + 1) 1 (by omega) (by omega) (by omega) (by omega)
    have p3 := rnum_good b0 s (i + 1 + 1) (k + 1 + 1) 2 (by omega) (by omega) (by omega) (by omega)
    have p4 := radr_good b0 s (i + 1 + 1 + 2) (k + 1 + 1 + 2) (by omega) (by omega) (by omega)
    exact m9rec_good w b0 s i k hk _ _ _ _ _ _ _ _ _ _ _ _ _ hs h p1 p2 p3 p4 (sixL_ok _ _) h8 (num_by89 s i (by omega)) (num_by89 s (i + 1) (by omega)) rfl rfl
  · have hl : (s.drop i).length < 20 := by simp; omega
    obtain ⟨n1, l1, k1, b1, p1, q1, r1, t1⟩ := ex_rnum b0 (s.drop i) k false 1 20 (by omega) (by omega) (by simp; omega) (by omega) (Or.inr hl)
    obtain ⟨n2, l2, k2, b2, p2, q2, r2, t2⟩ := ex_rnum b0 l1 k1 b1 1 19 (by omega) (by omega) (by omega) (by omega) t1
    obtain ⟨n3, l3, k3, b3, p3, q3, r3, t3⟩ := ex_rnum b0 l2 k2 b2 2 18 (by omega) (by omega) (by omega) (by omega) t2
    obtain ⟨a, p4, ha⟩ := radr_bad b0 l3 k3 b3 (by omega) (by omega) t3
    exact m9rec_short w b0 s i k hk l1 l2 l3 l3 k1 k2 k3 k3 n1 n2 n3 b1 b2 b3 a hs h p1 p2 p3 p4 ha (by unfold recQE9; rw [if_pos (by omega)])
end Go.Proofs.YtgpccgcppbdlpaaGreat
