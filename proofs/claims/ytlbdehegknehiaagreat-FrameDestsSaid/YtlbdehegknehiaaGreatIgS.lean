/- A part of the proof. -/
import Derived.Test.YtlbdehegknehiaaGreatMg00
import Derived.Test.YtlbdehegknehiaaGreatMg32
import Derived.Test.YtlbdehegknehiaaGreatIp
namespace Go.Proofs.YtlbdehegknehiaaGreat
set_option maxRecDepth 100000
set_option maxHeartbeats 4000000
open Go.RowKit
set_option linter.unusedVariables false
set_option linter.unusedSimpArgs false
attribute [local go_sem ↓] ld_addr st_addr bld_addr ld_rec st_rec bld_rec
attribute [local go_sem] ldr_addr str_addr str_addr_at ldr_rec str_rec row?_drew_eq
theorem AdsT.far {w w' : World} {v : Value} {l : List AD} {m : Nat} {L : Array Value} {T : TypeId} (h : AdsT w v l) (hm : ObjAt w m L T) (hT : T ≠ 24) (hg : w.grownBy w' (some m)) : AdsT w' v l := by
  have hf : ∀ b o n c, v = .slice (some ⟨b, o, none⟩) n c → some b ≠ some m := fun b o n c e => by
    obtain ⟨h1, cur, fz, h2⟩ := h.2 b o n c e
    intro hb
    simp only [Option.some.injEq] at hb
    subst hb
    unfold ObjAt at hm
    rw [h2] at hm
    simp only [Option.some.injEq, Obj.cells.injEq] at hm
    exact hT hm.2.1.symm
  exact ⟨h.1.grown hg hf, h.2.grown hg hf⟩
theorem bldr_rk (k : Int) (w : World) : (aggBuild 109 #[(0, .int .i64 k)]).run Tryz.prog w = .ok (.agg (rcC ⟨k, zeroA, []⟩ (.slice none 0 0)).toArray) w := bld_run _ _ _ (by kernel_rfl) _
theorem rcC_grp (x : RC) (u : Value) (ho : adOk x.g) (a : AD) (ha : adOk a) : over (rcC x u) 1 (adC a) = rcC ⟨x.kind, a, x.src⟩ u := by
  unfold over rcC
  have l1 := adC_length ho
  have l2 := adC_length ha
  rw [l2]
  simp only [List.take_succ_cons, List.take_zero, List.drop_succ_cons]
  rw [show 1 + 16 = 17 from rfl, List.drop_append_of_le_length (by omega), List.drop_of_length_le (by omega)]
  simp
theorem rcC_srcs (x : RC) (u v : Value) (ls : List AD) (ho : adOk x.g) : (rcC x u).set 18 v = rcC ⟨x.kind, x.g, ls⟩ v := by
  unfold rcC
  have l1 := adC_length ho
  rw [zsS, List.set_append_right _ _ (by omega), l1]
  rfl
structure PR (w W : World) (b0 : Nat) (l : List UInt8) (k : Nat) (bad : Bool) (m : Nat) (x : RC) (u : Value) : Prop where
  pb : PB w W b0 l k bad
  res : ObjAt W (w.heap.size + 1) zz19 109
  rc : ObjAt W m (rcC x u).toArray 109
  lm : w.heap.size + 1 < m
  ok : adOk x.g
theorem PR.call {w W W' : World} {b0 m : Nat} {l l' : List UInt8} {k k' : Nat} {bad bad' : Bool} {x : RC} {u : Value} (h : PR w W b0 l k bad m x u) (hr : RdAt W' b0 l' k' bad') (hg : W.grownBy W' (some b0)) : PR w W' b0 l' k' bad' m x u :=
  ⟨h.pb.call hr hg, ObjAt.grown h.res hg (by have := h.pb.lt; simp; omega), ObjAt.grown h.rc hg (by have := h.pb.lt; have := h.lm; simp; omega), h.lm, h.ok⟩
theorem PR.below {w W W' : World} {b0 m : Nat} {l : List UInt8} {k : Nat} {bad : Bool} {x : RC} {u : Value} (h : PR w W b0 l k bad m x u) (hb : Below W.heap.size W W') : PR w W' b0 l k bad m x u :=
  ⟨h.pb.below hb, h.res.below hb h.res.lt, h.rc.below hb h.rc.lt, h.lm, h.ok⟩
theorem PR.grp {w W : World} {b0 m : Nat} {l : List UInt8} {k : Nat} {bad : Bool} {x : RC} {u : Value} (h : PR w W b0 l k bad m x u) (a : AD) (ha : adOk a) : PR w (aggO W m 1 (adC a)) b0 l k bad m ⟨x.kind, a, x.src⟩ u := by
  have lm := h.lm; have lt := h.pb.lt
  have h1 := aggO_obj (o := 1) (cs := adC a) h.rc (by rw [rcC_length h.ok, adC_length ha]; omega) (addrC_one _ _)
  rw [rcC_grp x u h.ok a ha] at h1
  refine ⟨⟨aggO_other h.pb.rd _ (by omega), aggO_other h.pb.pp _ (by omega), qbelow h.pb.frm (aggO_below (Below.refl _ _) (by omega) _ _), lt⟩, aggO_other h.res _ (by omega), h1, lm, ha⟩
theorem PR.src {w W : World} {b0 m : Nat} {l : List UInt8} {k : Nat} {bad : Bool} {x : RC} {u : Value} (h : PR w W b0 l k bad m x u) (v : Value) (ls : List AD) : PR w (W.setCell ⟨m, 18, none⟩ v) b0 l k bad m ⟨x.kind, x.g, ls⟩ v := by
  have lm := h.lm; have lt := h.pb.lt
  have h1 := ObjAt.set h.rc 18 v
  rw [zsA, rcC_srcs x u v ls h.ok] at h1
  exact ⟨⟨ObjAt.other h.pb.rd _ _ (by simp; omega), ObjAt.other h.pb.pp _ _ (by simp; omega), qbelow h.pb.frm ((Below.refl _ _).setCell (p := ⟨m, 18, none⟩) (by simp; omega) v), lt⟩, ObjAt.other h.res _ _ (by simp; omega), h1, lm, h.ok⟩
theorem PR.row {w W : World} {b0 m : Nat} {l : List UInt8} {k : Nat} {bad : Bool} {x : RC} {u : Value} (h : PR w W b0 l k bad m x u) : row? W m 0 19 = some (rcC x u) := obj_rowk (A := []) (M := rcC x u) (C := []) (by simpa using h.rc) rfl (rcC_length h.ok u)
theorem PR.free {w W : World} {b0 m : Nat} {l : List UInt8} {k : Nat} {bad : Bool} {x : RC} {u : Value} (h : PR w W b0 l k bad m x u) : free? W (w.heap.size + 1) 0 19 = true := obj_free h.res (by simp)
theorem PR.freeg {w W : World} {b0 m : Nat} {l : List UInt8} {k : Nat} {bad : Bool} {x : RC} {u : Value} (h : PR w W b0 l k bad m x u) : free? W m 1 17 = true := free_of fun j hj => by
  refine ⟨?_, ObjAt.free h.rc (1 + j)⟩
  rw [ObjAt.cell h.rc (1 + j), Array.getElem?_eq_getElem (by simp [rcC_length h.ok]; omega)]; rfl
theorem PR.s18 {w W : World} {b0 m : Nat} {l : List UInt8} {k : Nat} {bad : Bool} {x : RC} {u : Value} (h : PR w W b0 l k bad m x u) : W.cell? ⟨m, 18, none⟩ = some u ∧ W.frozen? ⟨m, 18, none⟩ = false := by
  refine ⟨?_, ObjAt.free h.rc 18⟩
  rw [ObjAt.cell h.rc, List.getElem?_toArray]
  unfold rcC
  rw [show (18 : Nat) = 17 + 1 from rfl, List.getElem?_cons_succ, List.getElem?_append_right (by rw [adC_length h.ok]; omega), adC_length h.ok]
  rfl
theorem PR.done {w W : World} {b0 m : Nat} {l : List UInt8} {k : Nat} {bad : Bool} {x : RC} {u : Value} (h : PR w W b0 l k bad m x u) :
    row? (aggW W (w.heap.size + 1) (rcC x u)) (w.heap.size + 1) 0 19 = some (rcC x u) ∧ RdAt (aggW W (w.heap.size + 1) (rcC x u)) b0 l k bad ∧ w.grownBy (aggW W (w.heap.size + 1) (rcC x u)) (some b0) :=
  ⟨aggW_row h.free (rcC_length h.ok u), aggW_other h.pb.rd _ (by have := h.pb.lt; omega), qbelow h.pb.frm (aggW_below (Below.refl _ _) (by omega) _)⟩
theorem PR.adst {w W : World} {b0 m : Nat} {l : List UInt8} {k : Nat} {bad : Bool} {x : RC} {u v : Value} {ls : List AD} (h : PR w W b0 l k bad m x u) (ha : AdsT W v ls) : AdsT (aggW W (w.heap.size + 1) (rcC x u)) v ls := ha.far h.res (by decide) (aggW_grown _ _ _)
theorem PR.c {w W : World} {b0 m : Nat} {l : List UInt8} {k : Nat} {bad : Bool} {x : RC} {u : Value} (h : PR w W b0 l k bad m x u) : W.cell? ⟨w.heap.size, 0, none⟩ = some (.pointer (some ⟨b0, 0, none⟩)) := h.pb.c
structure PR0 (w W : World) (b0 : Nat) (l : List UInt8) (k : Nat) (bad : Bool) : Prop where
  pb : PB w W b0 l k bad
  res : ObjAt W (w.heap.size + 1) zz19 109
theorem PR0.start {w : World} {b0 : Nat} {l : List UInt8} {k : Nat} {bad : Bool} (h : RdAt w b0 l k bad) : PR0 w ((w.alloc (.cells #[.pointer (some ⟨b0, 0, none⟩)] 192)).alloc (.cells zz19 109)) b0 l k bad := by
  refine ⟨(PB.start h).below ((Below.refl _ _).alloc (Nat.le_refl _) _), ?_⟩
  have := ObjAt.made (w.alloc (.cells #[.pointer (some ⟨b0, 0, none⟩)] 192)) zz19 109
  rw [show (w.alloc (.cells #[.pointer (some ⟨b0, 0, none⟩)] 192)).heap.size = w.heap.size + 1 by simp] at this
  exact this
theorem PR0.call {w W W' : World} {b0 : Nat} {l l' : List UInt8} {k k' : Nat} {bad bad' : Bool} (h : PR0 w W b0 l k bad) (hr : RdAt W' b0 l' k' bad') (hg : W.grownBy W' (some b0)) : PR0 w W' b0 l' k' bad' :=
  ⟨h.pb.call hr hg, ObjAt.grown h.res hg (by have := h.pb.lt; simp; omega)⟩
theorem PR0.made {w W : World} {b0 : Nat} {l : List UInt8} {k : Nat} {bad : Bool} (h : PR0 w W b0 l k bad) (n : Int) : PR w (aggW (W.alloc (.cells zz19 109)) W.heap.size (rcC ⟨n, zeroA, []⟩ (.slice none 0 0))) b0 l k bad W.heap.size ⟨n, zeroA, []⟩ (.slice none 0 0) := by
  have hb := aggW_below ((Below.refl W.heap.size W).alloc (Nat.le_refl _) (.cells zz19 109)) (Nat.le_refl _) (rcC ⟨n, zeroA, []⟩ (.slice none 0 0))
  exact ⟨h.pb.below hb, h.res.below hb h.res.lt, aggW_obj (L := (zz19 : Array Value).toList) (by simpa using ObjAt.made W zz19 109) (by rw [rcC_length zeroA_ok]; rfl) (rcC_one rfl), h.res.lt, zeroA_ok⟩
abbrev PNum (b0 : Nat) (l : List UInt8) (k : Nat) (bad : Bool) (wd : Int) (n : Nat) (l' : List UInt8) (k' : Nat) (bad' : Bool) : Prop := ∀ W, RdAt W b0 l k bad → Calls Tryz.prog 206 #[pv b0, .int .i64 wd] W fun x w' => x = .returned (.int .i64 n) ∧ RdAt w' b0 l' k' bad' ∧ W.grownBy w' (some b0)
theorem pnum_good (b0 : Nat) (s : List UInt8) (i wd : Nat) (h4 : wd ≤ 4) (hi : i + wd ≤ s.length) (hl : s.length ≤ 1000000) : PNum b0 (s.drop i) i false wd (num ((s.drop i).take wd)) (s.drop (i + wd)) (i + wd) false := fun W h => by
  have := pnum_any b0 (s.drop i) i false wd h4 (by simp; omega) (by omega) W h
  obtain ⟨e1, e2, e3, e4⟩ := rd_good (l := s.drop i) (n := wd) (k := i) (by simp; omega)
  rw [e1, e2, e3, e4, List.drop_drop] at this
  exact this
theorem num_by8 (s : List UInt8) (i : Nat) (h : i < s.length) : num ((s.drop i).take 1) = by8 s i := by
  have := by8_num (s.drop i) (by simp; omega)
  rw [this, by8_drop]; rfl
def recQE (s : List UInt8) (i : Nat) : Int := if s.length < i + 8 then 3 else if srcsE s (i + 8) (wd s (i + 2)) ≠ 0 then srcsE s (i + 8) (wd s (i + 2)) else if s.length < recN s i then 3 else 0
def RecQ (w W' : World) (b0 : Nat) (s : List UInt8) (i : Nat) (x : Ending) : Prop :=
  ∃ (r : RC) (u : Value) (e : Int) (l' : List UInt8) (k' : Nat) (bad' : Bool), x = .returned (.tuple #[.agg (rcC r u).toArray, .int .i64 e]) ∧ e = recQE s i ∧ adOk r.g ∧ AdsT W' u r.src ∧ RdAt W' b0 l' k' bad' ∧ w.grownBy W' (some b0) ∧ (e = 0 → r = rec1 s i ∧ l' = s.drop (recN s i) ∧ k' = recN s i ∧ bad' = false)
theorem prec_short (w : World) (b0 : Nat) (s : List UInt8) (i : Nat) (l1 l2 l3 l4 : List UInt8) (k1 k2 k3 k4 n1 n2 n3 : Nat) (b1 b2 b3 : Bool) (a : AD) (hs : s.length ≤ 100000) (h : RdAt w b0 (s.drop i) i false)
    (hN1 : PNum b0 (s.drop i) i false 1 n1 l1 k1 b1) (hN2 : PNum b0 l1 k1 b1 1 n2 l2 k2 b2) (hN3 : PNum b0 l2 k2 b2 2 n3 l3 k3 b3) (hA : PAdr b0 l3 k3 b3 a l4 k4 true) (ha : adOk a) (hE : recQE s i = 3) :
    Calls Tryz.prog 225 #[pv b0] w fun x W' => RecQ w W' b0 s i x := by
  have HN1 := zh hN1
  have HN2 := zh hN2
  have HN3 := zh hN3
  have HA := zh hA
  have HBD := zh (fun W (h : RdAt W b0 l4 k4 true) => bad_any b0 l4 k4 true W h)
  have H0 := zh (PR0.start h)
  have hbk := bldr_rk (n1 : Int)
  have hfk : fok (rcC ⟨n1, zeroA, []⟩ (.slice none 0 0)).toArray 19 = true := fok_rec zeroA_ok rfl
  have hfa : fok (adC a).toArray 17 = true := fok_addr _ _ ha
  have HAA := zh ha
  have HQE := zh hE
  clear hN1 hN2 hN3 hA h ha
  go_enter Tryz.func225, Tryz.ntmps225
  go_upto_region 1 with (fail)
  generalize (w.alloc (.cells #[.pointer (some ⟨b0, 0, none⟩)] 192)).alloc (.cells zz19 109) = W at H0 ⊢
  have c0 := H0.out.pb.c
  have hfm : ∀ W : World, free? (W.alloc (.cells zz19 109)) W.heap.size 0 19 = true := fun W => free_made W _ _ 19 (by simp)
  go_upto_region 2 with (go_at_call 206; (with_reducible refine (HN1.out _ H0.out.pb.rd).mono ?_); rintro x w1 ⟨rfl, h9, k9⟩; have H1 := zh (H0.out.call h9 k9); clear h9 k9)
  have H2 := zh (H1.out.made (n1 : Int))
  generalize aggW (w1.alloc (.cells zz19 109)) w1.heap.size _ = W2 at H2 ⊢
  generalize w1.heap.size = m at H2 ⊢
  clear c0 hfm hfk hbk H0 H1
  refine wp_region_held_drew (S := fun W => W.cell? ⟨w.heap.size, 0, none⟩ = some (.pointer (some ⟨b0, 0, none⟩))) (by kernel_rfl) (H2.out.c) (fun hHeld => ?_)
  have Hq := zh (show PR w W2.drew b0 _ _ _ _ _ _ from H2.out.below ⟨rfl, rfl, rfl, Nat.le_refl _, fun _ _ => rfl⟩)
  have c0q := Hq.out.c
  generalize World.drew W2 = Wq at Hq c0q hHeld ⊢
  refine wpAnyH_take (i := 0) (oi := { dst := some 12, op := _, type := _, pos := _, after := _, guard := _ }) (v := ?hv1) rfl (by kernel_rfl) (by kernel_rfl) (by kernel_rfl) (fun _ _ _ h => h) (Or.inl ⟨by rfl, ?hy1⟩) (by assumption) ?hr1
  case hy1 => (intro w hSw; go_simp; try with_reducible rfl)
  try simp only [Act.put, zsA, zsZ, zsS]
  refine wpAnyH_take (i := 2) (oi := { dst := some 14, op := _, type := _, pos := _, after := _, guard := _ }) (v := ?hv2) rfl (by kernel_rfl) (by kernel_rfl) (by kernel_rfl) (fun _ _ _ h => h) (Or.inl ⟨by rfl, ?hy2⟩) (by assumption) ?hr2
  case hy2 => (intro w hSw; go_simp; try with_reducible rfl)
  try simp only [Act.put, zsA, zsZ, zsS]
  refine wpAnyH_ready (rs := [1]) (by kernel_rfl) (by simp) (AllReadyH.cons (o := _) rfl (fun K hK => ?_) AllReadyH.nil)
  go_simp
  go_at_call 206; (with_reducible refine (HN2.out _ Hq.out.pb.rd).mono ?_); rintro x w3 ⟨rfl, h9, k9⟩; have H3 := zh (Hq.out.call h9 k9); clear h9 k9
  try go_wp2_with fail
  refine hK.out _ _ (H3.out.c) (fun hHeld => ?_)
  clear hK K
  try simp only [Act.put, zsA, zsZ, zsS]
  refine wpAnyH_ready (rs := [3]) (by kernel_rfl) (by simp) (AllReadyH.cons (o := _) rfl (fun K hK => ?_) AllReadyH.nil)
  go_simp
  go_at_call 206; (with_reducible refine (HN3.out _ H3.out.pb.rd).mono ?_); rintro x w4 ⟨rfl, h9, k9⟩; have H4 := zh (H3.out.call h9 k9); clear h9 k9
  try go_wp2_with fail
  refine hK.out _ _ (H4.out.c) (fun hHeld => ?_)
  clear hK K
  try simp only [Act.put, zsA, zsZ, zsS]
  refine wpAnyH_take (i := 4) (oi := { dst := some 5, op := _, type := _, pos := _, after := _, guard := _ }) (v := ?hv3) rfl (by kernel_rfl) (by kernel_rfl) (by kernel_rfl) (fun _ _ _ h => h) (Or.inl ⟨by rfl, ?hy3⟩) (by assumption) ?hr3
  case hy3 => (intro w hSw; go_simp; try with_reducible rfl)
  try simp only [Act.put, zsA, zsZ, zsS]
  refine wpAnyH_take (i := 5) (oi := { dst := some 6, op := _, type := _, pos := _, after := _, guard := _ }) (v := ?hv4) rfl (by kernel_rfl) (by kernel_rfl) (by kernel_rfl) (fun _ _ _ h => h) (Or.inl ⟨by rfl, ?hy4⟩) (by assumption) ?hr4
  case hy4 => (intro w hSw; go_simp; try with_reducible rfl)
  try simp only [Act.put, zsA, zsZ, zsS]
  refine wpAnyH_done (by kernel_rfl) ?_ _
  have c0 := H4.out.c
  have fg := H4.out.freeg
  go_upto_region 4 with (go_at_call 221; (with_reducible refine (HA.out _ H4.out.pb.rd).mono ?_); rintro x w5 ⟨rfl, h9, k9⟩; have H5 := zh (H4.out.call h9 k9); clear h9 k9 c0 fg; have fg := H5.out.freeg)
  have H6 := zh (H5.out.grp a HAA.out)
  generalize aggO w5 m 1 _ = W6 at H6 ⊢
  clear fg hfa H2 Hq c0q H3 H4 H5
  have c0 := H6.out.c
  have hrow := H6.out.row
  have hfr := H6.out.free
  have hfs : fok (rcC ⟨n1, a, []⟩ (.slice none 0 0)).toArray 19 = true := fok_rec HAA.out rfl
  go_upto_region 5 with (go_at_call 87; (with_reducible refine (HBD.out _ H6.out.pb.rd).mono ?_); rintro x w7 ⟨rfl, hw⟩; subst hw)
  repeat (first | go_values | go_skip | go_guarded | go_step | go_upon | go_in)
  obtain ⟨q1, q2, q3⟩ := H6.out.done
  exact bodyPost_ret (results_cell2 Tryz.results225 rfl (ld_some q1 (ldr_rec _ _ _))) rfl ⟨⟨n1, a, []⟩, _, 3, _, _, _, rfl, HQE.out.symm, HAA.out, H6.out.adst (AdsT.nil _), q2, q3, fun h => by simp at h⟩
theorem PR.done2 {w W : World} {b0 m : Nat} {l : List UInt8} {k : Nat} {bad : Bool} {x : RC} {u : Value} (h : PR w W b0 l k bad m x u) :
    row? (aggW W (w.heap.size + 1) (rcC x u)) m 0 19 = some (rcC x u) ∧ (aggW W (w.heap.size + 1) (rcC x u)).cell? ⟨w.heap.size, 0, none⟩ = some (.pointer (some ⟨b0, 0, none⟩)) := by
  have lm := h.lm
  have h1 := aggW_other h.rc (rcC x u) (show m ≠ w.heap.size + 1 by omega)
  have h2 := aggW_other h.pb.pp (rcC x u) (show w.heap.size ≠ w.heap.size + 1 by omega)
  exact ⟨obj_rowk (A := []) (M := rcC x u) (C := []) (by simpa using h1) rfl (rcC_length h.ok u), by rw [ObjAt.cell h2]; rfl⟩
theorem prec_good (w : World) (b0 : Nat) (s : List UInt8) (i : Nat) (l1 l2 l3 : List UInt8) (k1 k2 k3 n1 n2 n3 : Nat) (b1 b2 b3 : Bool) (a : AD) (hs : s.length ≤ 100000) (h : RdAt w b0 (s.drop i) i false)
    (hN1 : PNum b0 (s.drop i) i false 1 n1 l1 k1 b1) (hN2 : PNum b0 l1 k1 b1 1 n2 l2 k2 b2) (hN3 : PNum b0 l2 k2 b2 2 n3 l3 k3 b3) (hA : PAdr b0 l3 k3 b3 a (s.drop (i + 8)) (i + 8) false) (ha : adOk a) (h8 : i + 8 ≤ s.length) (e1 : n1 = by8 s i) (e2 : n2 = by8 s (i + 1)) (e3 : n3 = wd s (i + 2)) (ea : a = fourL s (i + 4)) :
    Calls Tryz.prog 225 #[pv b0] w fun x W' => RecQ w W' b0 s i x := by
  have HN1 := zh hN1
  have HN2 := zh hN2
  have HN3 := zh hN3
  have HA := zh hA
  have HBD := zh (fun W (h : RdAt W b0 (s.drop (i + 8)) (i + 8) false) => bad_any b0 (s.drop (i + 8)) (i + 8) false W h)
  have H0 := zh (PR0.start h)
  have hbk := bldr_rk (n1 : Int)
  have hfk : fok (rcC ⟨n1, zeroA, []⟩ (.slice none 0 0)).toArray 19 = true := fok_rec zeroA_ok rfl
  have hfa : fok (adC a).toArray 17 = true := fok_addr _ _ ha
  have HAA := zh ha
  have hwd := wd_lt s (i + 2) (by omega)
  have hb8 := by8_lt s (i + 1)
  rw [← e3] at hwd
  rw [← e2] at hb8
  have HSR := zh (fun W h => psources_any b0 s (i + 8) n3 hs (by omega) (by omega) W h)
  have HRN := zh (show recN s i = i + 8 + 4 * n3 + 4 * n2 by unfold recN; rw [e2, e3])
  have HR1 := zh (show ∀ ls, ls = srcsL s (i + 8) n3 → (⟨n1, a, ls⟩ : RC) = rec1 s i by intro ls hls; unfold rec1; rw [e1, ea, hls, e3])
  have HQ1 := zh (show srcsE s (i + 8) n3 ≠ 0 → srcsE s (i + 8) n3 = recQE s i by intro h; unfold recQE; rw [if_neg (by omega), ← e3, if_pos h])
  have HQ2 := zh (show srcsE s (i + 8) n3 = 0 → (if s.length < recN s i then (3 : Int) else 0) = recQE s i by
    intro h
    have h1 : ¬ s.length < i + 8 := by omega
    unfold recQE
    simp only [h1, if_false, ← e3, h, ne_eq, not_true_eq_false])
  have hw4 : IntKind.i64.wrap (4 * (n2 : Int)) = 4 * (n2 : Int) := by simp only [IntKind.wrap_i64]; omega
  have HTK : Hid (srcsE s (i + 8) n3 = 0 → ∃ (l6 : List UInt8) (k6 : Nat) (b6 : Bool), (∀ W, RdAt W b0 (s.drop (i + 8 + 4 * n3)) (i + 8 + 4 * n3) false → Calls Tryz.prog 162 #[.pointer (some ⟨b0, 0, none⟩), .int .i64 (4 * (n2 : Int))] W fun x w' => (∃ t, x = .returned (.string t)) ∧ RdAt w' b0 l6 k6 b6 ∧ W.grownBy w' (some b0)) ∧ (if b6 then (3 : Int) else 0) = recQE s i ∧ (b6 = false → l6 = s.drop (recN s i) ∧ k6 = recN s i)) := zh fun h0 => by
    have hle : i + 8 + 4 * n3 ≤ s.length := by
      unfold srcsE at h0
      split at h0
      · cases h0
      · split at h0
        · cases h0
        · omega
    have hcast : (4 * (n2 : Int)) = ((4 * n2 : Nat) : Int) := by omega
    by_cases hg : 4 * n2 ≤ (s.drop (i + 8 + 4 * n3)).length
    · obtain ⟨f1, f2, f3, f4⟩ := rd_good (l := s.drop (i + 8 + 4 * n3)) (n := 4 * n2) (k := i + 8 + 4 * n3) hg
      refine ⟨s.drop (recN s i), recN s i, false, fun W hW => ?_, ?_, fun _ => ⟨rfl, rfl⟩⟩
      · have := take_any b0 _ _ false ((4 * n2 : Nat) : Int) (by simp; omega) (by omega) W hW
        rw [f1, f2, f3, f4, List.drop_drop] at this
        rw [hcast, HRN.out]
        exact this.mono fun x w' h => ⟨⟨_, h.1⟩, h.2⟩
      · rw [← HQ2.out h0, if_neg (show ¬ (false = true) by simp), if_neg (show ¬ s.length < recN s i by rw [HRN.out]; simp at hg; omega)]
    · obtain ⟨f1, f2, f3, f4⟩ := rd_short (l := s.drop (i + 8 + 4 * n3)) (n := 4 * n2) (k := i + 8 + 4 * n3) (by omega)
      refine ⟨s.drop (i + 8 + 4 * n3), i + 8 + 4 * n3, true, fun W hW => ?_, ?_, fun h => by cases h⟩
      · have := take_any b0 _ _ false ((4 * n2 : Nat) : Int) (by simp; omega) (by omega) W hW
        rw [f1, f2, f3, f4] at this
        rw [hcast]
        exact this.mono fun x w' h => ⟨⟨_, h.1⟩, h.2⟩
      · rw [← HQ2.out h0, if_pos (show true = true from rfl), if_pos (show s.length < recN s i by rw [HRN.out]; simp at hg; omega)]
  clear e1 e2 e3 ea hwd hb8 h8 hs
  clear hN1 hN2 hN3 hA h ha
  go_enter Tryz.func225, Tryz.ntmps225
  go_upto_region 1 with (fail)
  generalize (w.alloc (.cells #[.pointer (some ⟨b0, 0, none⟩)] 192)).alloc (.cells zz19 109) = W at H0 ⊢
  have c0 := H0.out.pb.c
  have hfm : ∀ W : World, free? (W.alloc (.cells zz19 109)) W.heap.size 0 19 = true := fun W => free_made W _ _ 19 (by simp)
  go_upto_region 2 with (go_at_call 206; (with_reducible refine (HN1.out _ H0.out.pb.rd).mono ?_); rintro x w1 ⟨rfl, h9, k9⟩; have H1 := zh (H0.out.call h9 k9); clear h9 k9)
  have H2 := zh (H1.out.made (n1 : Int))
  generalize aggW (w1.alloc (.cells zz19 109)) w1.heap.size _ = W2 at H2 ⊢
  generalize w1.heap.size = m at H2 ⊢
  clear c0 hfm hfk hbk H0 H1
  refine wp_region_held_drew (S := fun W => W.cell? ⟨w.heap.size, 0, none⟩ = some (.pointer (some ⟨b0, 0, none⟩))) (by kernel_rfl) (H2.out.c) (fun hHeld => ?_)
  have Hq := zh (show PR w W2.drew b0 _ _ _ _ _ _ from H2.out.below ⟨rfl, rfl, rfl, Nat.le_refl _, fun _ _ => rfl⟩)
  have c0q := Hq.out.c
  generalize World.drew W2 = Wq at Hq c0q hHeld ⊢
  refine wpAnyH_take (i := 0) (oi := { dst := some 12, op := _, type := _, pos := _, after := _, guard := _ }) (v := ?hv1) rfl (by kernel_rfl) (by kernel_rfl) (by kernel_rfl) (fun _ _ _ h => h) (Or.inl ⟨by rfl, ?hy1⟩) (by assumption) ?hr1
  case hy1 => (intro w hSw; go_simp; try with_reducible rfl)
  try simp only [Act.put, zsA, zsZ, zsS]
  refine wpAnyH_take (i := 2) (oi := { dst := some 14, op := _, type := _, pos := _, after := _, guard := _ }) (v := ?hv2) rfl (by kernel_rfl) (by kernel_rfl) (by kernel_rfl) (fun _ _ _ h => h) (Or.inl ⟨by rfl, ?hy2⟩) (by assumption) ?hr2
  case hy2 => (intro w hSw; go_simp; try with_reducible rfl)
  try simp only [Act.put, zsA, zsZ, zsS]
  refine wpAnyH_ready (rs := [1]) (by kernel_rfl) (by simp) (AllReadyH.cons (o := _) rfl (fun K hK => ?_) AllReadyH.nil)
  go_simp
  go_at_call 206; (with_reducible refine (HN2.out _ Hq.out.pb.rd).mono ?_); rintro x w3 ⟨rfl, h9, k9⟩; have H3 := zh (Hq.out.call h9 k9); clear h9 k9
  try go_wp2_with fail
  refine hK.out _ _ (H3.out.c) (fun hHeld => ?_)
  clear hK K
  try simp only [Act.put, zsA, zsZ, zsS]
  refine wpAnyH_ready (rs := [3]) (by kernel_rfl) (by simp) (AllReadyH.cons (o := _) rfl (fun K hK => ?_) AllReadyH.nil)
  go_simp
  go_at_call 206; (with_reducible refine (HN3.out _ H3.out.pb.rd).mono ?_); rintro x w4 ⟨rfl, h9, k9⟩; have H4 := zh (H3.out.call h9 k9); clear h9 k9
  try go_wp2_with fail
  refine hK.out _ _ (H4.out.c) (fun hHeld => ?_)
  clear hK K
  try simp only [Act.put, zsA, zsZ, zsS]
  refine wpAnyH_take (i := 4) (oi := { dst := some 5, op := _, type := _, pos := _, after := _, guard := _ }) (v := ?hv3) rfl (by kernel_rfl) (by kernel_rfl) (by kernel_rfl) (fun _ _ _ h => h) (Or.inl ⟨by rfl, ?hy3⟩) (by assumption) ?hr3
  case hy3 => (intro w hSw; go_simp; try with_reducible rfl)
  try simp only [Act.put, zsA, zsZ, zsS]
  refine wpAnyH_take (i := 5) (oi := { dst := some 6, op := _, type := _, pos := _, after := _, guard := _ }) (v := ?hv4) rfl (by kernel_rfl) (by kernel_rfl) (by kernel_rfl) (fun _ _ _ h => h) (Or.inl ⟨by rfl, ?hy4⟩) (by assumption) ?hr4
  case hy4 => (intro w hSw; go_simp; try with_reducible rfl)
  try simp only [Act.put, zsA, zsZ, zsS]
  refine wpAnyH_done (by kernel_rfl) ?_ _
  have c0 := H4.out.c
  have fg := H4.out.freeg
  go_upto_region 4 with (go_at_call 221; (with_reducible refine (HA.out _ H4.out.pb.rd).mono ?_); rintro x w5 ⟨rfl, h9, k9⟩; have H5 := zh (H4.out.call h9 k9); clear h9 k9 c0 fg; have fg := H5.out.freeg)
  have H6 := zh (H5.out.grp a HAA.out)
  generalize aggO w5 m 1 _ = W6 at H6 ⊢
  clear fg hfa H2 Hq c0q H3 H4 H5
  have c0 := H6.out.c
  have hrow := H6.out.row
  have hfr := H6.out.free
  have hfs : fok (rcC ⟨n1, a, []⟩ (.slice none 0 0)).toArray 19 = true := fok_rec HAA.out rfl
  go_upto_region 7 with (first
    | (go_at_call 87; (with_reducible refine (HBD.out _ H6.out.pb.rd).mono ?_); rintro x w7 ⟨rfl, hw⟩; subst hw)
    | (go_at_call 232; (with_reducible refine (HSR.out _ H6.out.pb.rd).mono ?_); rintro x w8 ⟨v, e, ls, l5, k5, b5, rfl, he, hv, hrd, hgr, _, _, h0⟩; have H8 := zh (H6.out.call hrd hgr); have HV := zh hv; have HE := zh he; have HZ := zh h0; clear hrd hgr hv he h0))
  obtain ⟨pv9, cv9, hvv, _, _⟩ := HV.out.1.len
  subst hvv
  clear c0 hrow hfr
  have c0 := H8.out.c
  have hrow := H8.out.row
  have hfr := H8.out.free
  by_cases he : e = 0
  · obtain ⟨z1, z2, z3, z4⟩ := HZ.out he
    subst z2 z3 z4
    obtain ⟨l6, k6, b6, t1, t2, t3⟩ := HTK.out (by rw [← HE.out]; exact he)
    have HT := zh t1
    have HT2 := zh t2
    have HT3 := zh t3
    have HLS := zh z1
    clear t1 t2 t3 z1
    have te : (e != 0) = false := by simp [he]
    obtain ⟨g18, g18f⟩ := H8.out.s18
    have H9 := zh (H8.out.src (.slice pv9 ls.length cv9) ls)
    have HV9 := zh (HV.out.far H8.out.rc (by decide) (gset w8 m 18 (.slice pv9 ls.length cv9)))
    go_upto_region 10 with (fail)
    generalize World.setCell w8 _ _ = w10 at H9 HV9 ⊢
    clear c0 hrow hfr g18 g18f
    have c0 := H9.out.c
    obtain ⟨ec, hec⟩ : ∃ ec : Int, ec = if b6 then 3 else 0 := ⟨_, rfl⟩
    have HEC := zh hec
    have HEND : Hid (∀ W, RdAt W b0 l6 k6 b6 → Calls Tryz.prog 233 #[pv b0] W fun x w' => x = .returned (.int .i64 ec) ∧ Below W.heap.size W w') := zh fun W h => by rw [hec]; exact pend_any b0 l6 k6 b6 W h
    clear hec
    go_upto_region 11 with (go_at_call 162; (with_reducible refine (HT.out _ H9.out.pb.rd).mono ?_); rintro x w9 ⟨⟨tt, rfl⟩, h9, k9⟩; have HB := zh (H9.out.call h9 k9); have HVB := zh (HV9.out.far H9.out.pb.rd (by decide) k9); clear h9 k9)
    clear c0 hfs
    have hfs : fok (rcC ⟨n1, a, ls⟩ (.slice pv9 ls.length cv9)).toArray 19 = true := fok_rec HAA.out rfl
    refine wp_region_held_drew (S := fun W => row? W m 0 19 = some (rcC ⟨n1, a, ls⟩ (.slice pv9 ls.length cv9)) ∧ W.cell? ⟨w.heap.size, 0, none⟩ = some (.pointer (some ⟨b0, 0, none⟩))) (by kernel_rfl) (⟨HB.out.row, HB.out.c⟩) (fun hHeld => ?_)
    have Hq := zh (show PR w w9.drew b0 _ _ _ _ _ _ from HB.out.below ⟨rfl, rfl, rfl, Nat.le_refl _, fun _ _ => rfl⟩)
    have HVQ := zh (show AdsT w9.drew _ _ from HVB.out.below ⟨rfl, rfl, rfl, Nat.le_refl _, fun _ _ => rfl⟩)
    generalize World.drew w9 = Wq at Hq HVQ hHeld ⊢
    refine wpAnyH_take (i := 0) (oi := { dst := some 40, op := _, type := _, pos := _, after := _, guard := _ }) (v := ?hv61) rfl (by kernel_rfl) (by kernel_rfl) (by kernel_rfl) (fun _ _ _ h => h) (Or.inl ⟨by rfl, ?hy61⟩) (by assumption) ?hr61
    case hy61 => (intro ws hSw; obtain ⟨s1, s2⟩ := hSw; go_simp; try with_reducible rfl)
    try simp only [Act.put, zsA, zsZ, zsS]
    refine wpAnyH_take (i := 1) (oi := { dst := some 41, op := _, type := _, pos := _, after := _, guard := _ }) (v := ?hv62) rfl (by kernel_rfl) (by kernel_rfl) (by kernel_rfl) (fun _ _ _ h => h) (Or.inl ⟨by rfl, ?hy62⟩) (by assumption) ?hr62
    case hy62 => (intro ws hSw; obtain ⟨s1, s2⟩ := hSw; go_simp; try with_reducible rfl)
    try simp only [Act.put, zsA, zsZ, zsS]
    refine wpAnyH_ready (rs := [2]) (by kernel_rfl) (by simp) (AllReadyH.cons (o := _) rfl (fun K hK => ?_) AllReadyH.nil)
    go_simp
    go_at_call 233; (with_reducible refine (HEND.out _ Hq.out.pb.rd).mono ?_); rintro x wa ⟨rfl, h9⟩; have HVC := zh ((show AdsT Wq _ _ from HVQ.out).below h9); have HC := zh (Hq.out.below h9); clear h9; have hfc := HC.out.free
    try go_wp2_with fail
    refine hK.out _ _ (⟨HC.out.row, HC.out.c⟩) (fun hHeld => ?_)
    clear hK K
    try simp only [Act.put, zsA, zsZ, zsS]
    refine wpAnyH_ready (rs := [3]) (by kernel_rfl) (by simp) (AllReadyH.cons (o := _) rfl (fun K hK => ?_) AllReadyH.nil)
    go_simp
    refine hK.out _ _ (HC.out.done2) (fun hHeld => ?_)
    clear hK K
    try simp only [Act.put, zsA, zsZ, zsS]
    have HD := zh HC.out.done
    refine wpAnyH_take (i := 4) (oi := { dst := some 3, op := _, type := _, pos := _, after := _, guard := _ }) (v := ?hv63) rfl (by kernel_rfl) (by kernel_rfl) (by kernel_rfl) (fun _ _ _ h => h) (Or.inl ⟨by rfl, ?hy63⟩) (by assumption) ?hr63
    case hy63 => (intro ws hSw; obtain ⟨s1, s2⟩ := hSw; go_simp; try with_reducible rfl)
    try simp only [Act.put, zsA, zsZ, zsS]
    refine wpAnyH_done (by kernel_rfl) ?_ _
    repeat (first | go_values | go_skip | go_guarded | go_step | go_upon | go_in)
    obtain ⟨q1, q2, q3⟩ := HD.out
    refine bodyPost_ret (results_cell2 Tryz.results225 rfl (ld_some q1 (ldr_rec _ _ _))) rfl ⟨⟨n1, a, ls⟩, _, ec, _, _, _, rfl, by rw [HEC.out]; exact HT2.out, HAA.out, HC.out.adst HVC.out, q2, q3, fun h => ?_⟩
    have hb : b6 = false := by
      rw [HEC.out] at h
      cases b6 with
      | true => simp at h
      | false => rfl
    obtain ⟨y1, y2⟩ := HT3.out hb
    exact ⟨HR1.out ls HLS.out, y1, y2, hb⟩
  · have te : (e != 0) = true := by simpa using he
    have HNE := zh he
    clear he
    repeat (first | go_values | go_skip | go_guarded | go_step | go_upon | go_in)
    obtain ⟨q1, q2, q3⟩ := H8.out.done
    exact bodyPost_ret (results_cell2 Tryz.results225 rfl (ld_some q1 (ldr_rec _ _ _))) rfl ⟨⟨n1, a, []⟩, _, e, _, _, _, rfl, by rw [HE.out]; exact HQ1.out (by rw [← HE.out]; exact HNE.out), HAA.out, H8.out.adst (AdsT.nil _), q2, q3, fun h => absurd h HNE.out⟩
theorem ex_pnum (b0 : Nat) (l : List UInt8) (k : Nat) (bad : Bool) (wd m : Nat) (h4 : wd ≤ 4) (hm : wd ≤ m) (hl : l.length ≤ 1000000) (hk : k ≤ 200000) (hP : bad = true ∨ l.length < m) :
    ∃ (n : Nat) (l' : List UInt8) (k' : Nat) (bad' : Bool), PNum b0 l k bad wd n l' k' bad' ∧ l'.length ≤ l.length ∧ k' ≤ k + wd ∧ (bad' = true ∨ l'.length < m - wd) := by
  refine ⟨num (takeV l bad wd), leftV l bad wd, pastV l bad wd k, badV l bad wd, fun W h => pnum_any b0 l k bad wd h4 hl (by omega) W h, leftV_le _ _ _, pastV_le _ _ _ _, ?_⟩
  cases bad with
  | true => left; exact (rd_dead (l := l) (n := (wd : Int)) (k := k)).2.2.2
  | false =>
    by_cases h : wd ≤ l.length
    · right
      rw [(rd_good (k := k) h).2.1, List.length_drop]
      rcases hP with h1 | h1
      · cases h1
      · omega
    · left; exact (rd_short (l := l) (n := wd) (k := k) (by omega)).2.2.2
theorem ex_padr (b0 : Nat) (l : List UInt8) (k : Nat) (bad : Bool) (hl : l.length ≤ 1000000) (hk : k ≤ 200000) (hP : bad = true ∨ l.length < 4) :
    ∃ (a : AD) (l' : List UInt8) (k' : Nat), PAdr b0 l k bad a l' k' true ∧ adOk a := by
  have hb : badV l bad 4 = true := by
    cases bad with
    | true => exact (rd_dead (l := l) (n := 4) (k := k)).2.2.2
    | false => exact (rd_short (l := l) (n := 4) (k := k) (by rcases hP with h | h; cases h; exact h)).2.2.2
  refine ⟨ad4 (takeV l bad 4), leftV l bad 4, pastV l bad 4 k, fun W h => ?_, ad4_ok _⟩
  have := paddr_any b0 l k bad hl (by omega) W h
  rw [hb] at this
  exact this
theorem precord_any (b0 : Nat) (s : List UInt8) (i : Nat) (hs : s.length ≤ 100000) (hi : i ≤ s.length) (w : World) (h : RdAt w b0 (s.drop i) i false) :
    Calls Tryz.prog 225 #[pv b0] w fun x W' => RecQ w W' b0 s i x := by
  by_cases h8 : i + 8 ≤ s.length
  · have p1 := pnum_good b0 s i 1 (by omega) (by omega) (by omega)
    have p2 := pnum_good b0 s (i + 1) 1 (by omega) (by omega) (by omega)
    have p3 := pnum_good b0 s (i + 1 + 1) 2 (by omega) (by omega) (by omega)
    have p4 := paddr_good b0 s (i + 1 + 1 + 2) (by omega) (by omega)
    exact prec_good w b0 s i _ _ _ _ _ _ _ _ _ _ _ _ _ hs h p1 p2 p3 p4 (fourL_ok _ _) h8 (num_by8 s i (by omega)) (num_by8 s (i + 1) (by omega)) rfl rfl
  · have hl : (s.drop i).length < 8 := by simp; omega
    obtain ⟨n1, l1, k1, b1, p1, q1, r1, t1⟩ := ex_pnum b0 (s.drop i) i false 1 8 (by omega) (by omega) (by simp; omega) (by omega) (Or.inr hl)
    obtain ⟨n2, l2, k2, b2, p2, q2, r2, t2⟩ := ex_pnum b0 l1 k1 b1 1 7 (by omega) (by omega) (by omega) (by omega) t1
    obtain ⟨n3, l3, k3, b3, p3, q3, r3, t3⟩ := ex_pnum b0 l2 k2 b2 2 6 (by omega) (by omega) (by omega) (by omega) t2
    obtain ⟨a, l4, k4, p4, ha⟩ := ex_padr b0 l3 k3 b3 (by omega) (by omega) t3
    exact prec_short w b0 s i l1 l2 l3 l4 k1 k2 k3 k4 n1 n2 n3 b1 b2 b3 a hs h p1 p2 p3 p4 ha (by unfold recQE; rw [if_pos (by omega)])
end Go.Proofs.YtlbdehegknehiaaGreat
