/-
  Texts joined: FrW, EqM, IgQ.
-/
import Derived.Test.YtlbdehegknehiaaGreatMg00
import Derived.Test.YtlbdehegknehiaaGreatMg30
import Derived.Test.YtlbdehegknehiaaGreatMg18
import Derived.Deep.RegionHeld3
import Derived.Test.YtlbdehegknehiaaGreatMg01
import Derived.Test.YtlbdehegknehiaaGreatMg21
import Derived.Test.YtlbdehegknehiaaGreatMg23
import Derived.Test.YtlbdehegknehiaaGreatMg13
import Derived.Shelf.Abstract
/- A part of the proof. -/
namespace Go.Proofs.YtlbdehegknehiaaGreat
set_option maxRecDepth 100000
set_option maxHeartbeats 4000000
open Go.RowKit
set_option linter.unusedVariables false
set_option linter.unusedSimpArgs false
attribute [local go_sem ↓] ld_addr st_addr bld_addr ld_tk st_tk bld_tk ld_sd st_sd bld_sd ld_pk st_pk bld_pk ld_mac st_mac bld_mac ld_eth st_eth bld_eth
attribute [local go_sem] ldr_addr str_addr ldr_tk str_tk ldr_sd str_sd ldr_pk str_pk ldr_mac str_mac ldr_eth str_eth row?_drewN_eq row?_drew_eq
structure Bo3 (w W : World) (m : Nat) (c : Array Value) (T : TypeId) (d : Array Value) (U : TypeId) (L : Array Value) (V : TypeId) : Prop where
  one : ObjAt W w.heap.size c T
  two : ObjAt W (w.heap.size + 1) d U
  three : ObjAt W m L V
  blw : Below w.heap.size w W
  lt : w.heap.size + 1 < m
theorem Bo3.below {w W W' : World} {m : Nat} {c d L : Array Value} {T U V : TypeId} (h : Bo3 w W m c T d U L V) (hb : Below W.heap.size W W') : Bo3 w W' m c T d U L V := ⟨obj_keep h.one hb, obj_keep h.two hb, obj_keep h.three hb, bstep h.blw hb, h.lt⟩
theorem Bo3.alloc {w W : World} {c d : Array Value} {T U V : TypeId} (h : Bx w W c T d U) (Z : Array Value) : Bo3 w (W.alloc (.cells Z V)) W.heap.size c T d U Z V :=
  ⟨h.one.alloc _, h.two.alloc _, ObjAt.made W Z V, h.blw.alloc (Nat.le_of_lt h.one.lt) _, h.two.lt⟩
theorem Bo3.free {w W : World} {m : Nat} {c d L : Array Value} {T U V : TypeId} (h : Bo3 w W m c T d U L V) (n : Nat) (hn : n = L.size) : free? W m 0 n = true := obj_free h.three (Nat.le_of_eq hn)
theorem Bo3.put {w W : World} {m : Nat} {c d L : Array Value} {T U V : TypeId} (h : Bo3 w W m c T d U L V) (L' : List Value) (hl : L'.length = L.size) (h1 : ∀ v ∈ L', v.oneCell' = true) : Bo3 w (aggW W m L') m c T d U L'.toArray V := by
  have hlt := h.lt
  exact ⟨aggW_other h.one _ (by omega), aggW_other h.two _ (by omega), aggW_obj (L := L.toList) (by simpa using h.three) (by simpa using hl) h1, aggW_below h.blw (by omega) _, h.lt⟩
theorem Bo3.set {w W : World} {m : Nat} {c d : Array Value} {L : List Value} {T U V : TypeId} (h : Bo3 w W m c T d U L.toArray V) (j : Nat) (v : Value) : Bo3 w (W.setCell ⟨m, j, none⟩ v) m c T d U (L.set j v).toArray V := by
  have hlt := h.lt
  refine ⟨h.one.other _ _ (by simp; omega), h.two.other _ _ (by simp; omega), ?_, h.blw.setCell (p := ⟨m, j, none⟩) (by simp; omega) v, h.lt⟩
  have := h.three.set j v
  rwa [zsA] at this
theorem Bo3.done {w W : World} {m : Nat} {c d L : Array Value} {T U V : TypeId} (h : Bo3 w W m c T d U L V) (L' : List Value) (hL : L'.length = d.size) : row? (aggW W (w.heap.size + 1) L') (w.heap.size + 1) 0 d.size = some L' ∧ Below w.heap.size w (aggW W (w.heap.size + 1) L') :=
  ⟨aggW_row (obj_free h.two (Nat.le_refl _)) hL, aggW_below h.blw (by omega) _⟩
theorem Bo3.freeR {w W : World} {m : Nat} {c d L : Array Value} {T U V : TypeId} (h : Bo3 w W m c T d U L V) (n : Nat) (hn : n = d.size) : free? W (w.heap.size + 1) 0 n = true := obj_free h.two (Nat.le_of_eq hn)
theorem Bx.drew {w W : World} {c d : Array Value} {T U : TypeId} (h : Bx w W c T d U) : Bx w W.drew c T d U := ⟨h.one, h.two, (bdrewN h.blw 1)⟩
def tp0 (s : SD) (a : Bool) : PK := ⟨s.fr, s.tw, 0, 1, a, []⟩
theorem bld_tp (s : SD) (ho : s.ok) (a : Bool) (w : World) : (aggBuild 58 #[(0, .agg (adC s.fr).toArray), (1, .agg (adC s.tw).toArray), (3, .int .i64 1), (4, .bool a)]).run Tryz.prog w = .ok (.agg (pkC (tp0 s a)).toArray) w := by
  refine bld_run _ _ _ ?_ w
  obtain ⟨kind, vl, ⟨v, l⟩, ⟨u, m⟩, tk, pro, hop, da⟩ := s
  obtain ⟨h1, h2, _⟩ := ho
  simp only [adOk] at h1 h2
  obtain ⟨a0, a1, a2, a3, a4, a5, a6, a7, a8, a9, aa, ab, ac, ad, ae, af, rfl⟩ := list16 h1
  obtain ⟨b0, b1, b2, b3, b4, b5, b6, b7, b8, b9, ba, bb, bc, bd', be, bf, rfl⟩ := list16 h2
  kernel_rfl
theorem pkC_set (p : PK) (ho : p.ok) (j : Nat) (v : Value) (p' : PK) (e : [Value.int .i64 p.pro, .int .i64 p.hop, .bool p.al, .string (Str p.bd)].set j v = [.int .i64 p'.pro, .int .i64 p'.hop, .bool p'.al, .string (Str p'.bd)]) (e2 : p'.fr = p.fr ∧ p'.tw = p.tw) : (pkC p).set (34 + j) v = pkC p' := by
  have l1 := adC_length ho.1
  have l2 := adC_length ho.2
  unfold pkC
  rw [List.set_append_right _ _ (by omega), List.set_append_right _ _ (by omega)]
  simp only [l1, l2]
  rw [show 34 + j - 17 - 17 = j by omega, e, e2.1, e2.2]
theorem talkP_core (s : SD) (us ur : Value) (w : World) (ho : s.ok) (B : List UInt8) (e : Int)
    (h4 : s.tk.v6 = false → ∀ W, Below w.heap.size w W → Calls Tryz.prog 70 #[.agg (tkC s.tk us ur).toArray] W fun x w' => x = .returned (.tuple #[.string (Str B), .int .i64 e]) ∧ Below W.heap.size W w')
    (h6 : s.tk.v6 = true → ∀ W, Below w.heap.size w W → Calls Tryz.prog 69 #[.agg (tkC s.tk us ur).toArray, .agg (adC s.fr).toArray, .agg (adC s.tw).toArray] W fun x w' => x = .returned (.tuple #[.string (Str B), .int .i64 e]) ∧ Below W.heap.size W w') :
    Calls Tryz.prog 23 #[.agg (sdC s us ur).toArray] w fun x w' => x = .returned (.agg (pkC ⟨s.fr, s.tw, if s.tk.v6 then 58 else 2, 1, needsA s.tk, B⟩).toArray) ∧ Below w.heap.size w w' := by
  have H0 := zh (Bx.made w (sdC s us ur).toArray 30 (pkC zeroP).toArray 58)
  have HN := zh (fun W => needsA_any s.tk us ur W ho.2.2.1)
  have HSR := zh (fun W (h : ObjAt W w.heap.size (sdC s us ur).toArray 30) => (⟨(SV.of h ho.1 ho.2.1 ho.2.2.1).1.2.1, (SV.of h ho.1 ho.2.1 ho.2.2.1).1.2.2.1, (SV.of h ho.1 ho.2.1 ho.2.2.1).1.2.2.2⟩ : row? W w.heap.size 2 17 = some (adC s.fr) ∧ row? W w.heap.size 19 17 = some (adC s.tw) ∧ row? W w.heap.size 36 26 = some (tkC s.tk us ur)))
  have HV6 := zh (fun W (h : ObjAt W w.heap.size (sdC s us ur).toArray 30) => (SV.of h ho.1 ho.2.1 ho.2.2.1).2.2.1.1)
  have hbl := fun a w0 => bld_tp s ho a w0
  have HOK : Hid (∀ q r a B, (⟨s.fr, s.tw, q, r, a, B⟩ : PK).ok) := zh fun q r a B => ⟨ho.1, ho.2.1⟩
  have hok := fun a => fok_pk (p := tp0 s a) ⟨ho.1, ho.2.1⟩
  have HLP : Hid (∀ a, (pkC (tp0 s a)).length = 38) := zh (fun a => pkC_length (p := tp0 s a) ⟨ho.1, ho.2.1⟩)
  have H4 := zh h4
  have H6 := zh h6
  clear ho h4 h6
  generalize needsA s.tk = a at HN ⊢
  obtain ⟨q, hq⟩ : ∃ q : Int, q = if s.tk.v6 then 58 else 2 := ⟨_, rfl⟩
  rw [← hq]
  have HQ := zh hq; clear hq
  replace HLP := zh (HLP.out a)
  rw [zeroP_cells] at H0
  go_enter Tryz.func23, Tryz.ntmps23
  go_upto_region 1 with (fail)
  generalize (w.alloc (.cells (sdC s us ur).toArray 30)).alloc _ = W at H0 ⊢
  refine wp_region_held_drew (S := (fun W => row? W w.heap.size 2 17 = some (adC s.fr) ∧ row? W w.heap.size 19 17 = some (adC s.tw) ∧ row? W w.heap.size 36 26 = some (tkC s.tk us ur))) (by kernel_rfl) (HSR.out _ H0.out.one) (fun hHeld => ?_)
  have Ha := zh H0.out.drew
  generalize W.drew = wa at Ha hHeld ⊢
  refine wpAnyH_take (i := 0) (oi := { dst := some 4, op := _, type := _, pos := _, after := _, guard := _ }) (v := ?v1) rfl (by kernel_rfl) (by kernel_rfl) (by kernel_rfl) (fun _ _ _ h => h) (Or.inl ⟨by rfl, ?y1⟩) (by assumption) ?r1
  case y1 => (intro w hSw; obtain ⟨s1, s2, s3⟩ := hSw; go_simp; try with_reducible rfl)
  try simp only [Act.put, zsA, zsZ, zsS]
  refine wpAnyH_take (i := 1) (oi := { dst := some 5, op := _, type := _, pos := _, after := _, guard := _ }) (v := ?v2) rfl (by kernel_rfl) (by kernel_rfl) (by kernel_rfl) (fun _ _ _ h => h) (Or.inl ⟨by rfl, ?y2⟩) (by assumption) ?r2
  case y2 => (intro w hSw; obtain ⟨s1, s2, s3⟩ := hSw; go_simp; try with_reducible rfl)
  try simp only [Act.put, zsA, zsZ, zsS]
  refine wpAnyH_take (i := 2) (oi := { dst := some 6, op := _, type := _, pos := _, after := _, guard := _ }) (v := ?v3) rfl (by kernel_rfl) (by kernel_rfl) (by kernel_rfl) (fun _ _ _ h => h) (Or.inl ⟨by rfl, ?y3⟩) (by assumption) ?r3
  case y3 => (intro w hSw; obtain ⟨s1, s2, s3⟩ := hSw; go_simp; try with_reducible rfl)
  try simp only [Act.put, zsA, zsZ, zsS]
  refine wpAnyH_take (i := 3) (oi := { dst := some 7, op := _, type := _, pos := _, after := _, guard := _ }) (v := ?v4) rfl (by kernel_rfl) (by kernel_rfl) (by kernel_rfl) (fun _ _ _ h => h) (Or.inl ⟨by rfl, ?y4⟩) (by assumption) ?r4
  case y4 => (intro w hSw; obtain ⟨s1, s2, s3⟩ := hSw; go_simp; try with_reducible rfl)
  try simp only [Act.put, zsA, zsZ, zsS]
  refine wpAnyH_take (i := 4) (oi := { dst := some 8, op := _, type := _, pos := _, after := _, guard := _ }) (v := ?v5) rfl (by kernel_rfl) (by kernel_rfl) (by kernel_rfl) (fun _ _ _ h => h) (Or.inl ⟨by rfl, ?y5⟩) (by assumption) ?r5
  case y5 => (intro w hSw; obtain ⟨s1, s2, s3⟩ := hSw; go_simp; try with_reducible rfl)
  try simp only [Act.put, zsA, zsZ, zsS]
  refine wpAnyH_take (i := 5) (oi := { dst := some 9, op := _, type := _, pos := _, after := _, guard := _ }) (v := ?v6) rfl (by kernel_rfl) (by kernel_rfl) (by kernel_rfl) (fun _ _ _ h => h) (Or.inl ⟨by rfl, ?y6⟩) (by assumption) ?r6
  case y6 => (intro w hSw; obtain ⟨s1, s2, s3⟩ := hSw; go_simp; try with_reducible rfl)
  try simp only [Act.put, zsA, zsZ, zsS]
  refine wpAnyH_ready (rs := [6, 8]) (by kernel_rfl) (by simp) (AllReadyH.cons (o := { dst := some 10, op := _, type := _, pos := _, after := _, guard := _ }) rfl (fun K hK => ?_) (AllReadyH.cons (o := { dst := some 3, op := _, type := _, pos := _, after := _, guard := _ }) rfl (fun K hK => ?_) AllReadyH.nil))
  focus
    go_simp
    (go_at_call 68; (with_reducible refine (HN.out _).mono ?_); rintro x wn ⟨rfl, hb⟩; have Hb := zh (Ha.out.below hb); clear hb)
    try go_wp2_with fail
    refine hK.out _ _ (HSR.out _ Hb.out.one) (fun hHeld => ?_)
    clear hK K
    try simp only [Act.put, zsA, zsZ, zsS]
    rename World => Wb
    refine wpAnyH_take (i := 7) (oi := { dst := some 11, op := _, type := _, pos := _, after := _, guard := _ }) (v := ?v7) rfl (by kernel_rfl) (by kernel_rfl) (by kernel_rfl) (fun _ _ _ h => h) (Or.inl ⟨by rfl, ?y7⟩) (by assumption) ?r7
    case y7 => (intro w hSw; obtain ⟨s1, s2, s3⟩ := hSw; go_simp; try with_reducible rfl)
    try simp only [Act.put, zsA, zsZ, zsS]
    refine wpAnyH_ready (rs := [8]) (by kernel_rfl) (by simp) (AllReadyH.cons (o := { dst := some 3, op := _, type := _, pos := _, after := _, guard := _ }) rfl (fun K hK => ?_) AllReadyH.nil)
    go_simp
    refine hK.out _ _ (HSR.out _ (ObjAt.alloc Hb.out.one _)) (fun hHeld => ?_)
    clear hK K
    try simp only [Act.put, zsA, zsZ, zsS]
    have Hc := zh (Bo3.alloc (V := 58) Hb.out zz38)
    have hfc := Hc.out.free 38 rfl
    skip
    refine wpAnyH_ready (rs := [9]) (by kernel_rfl) (by simp) (AllReadyH.cons (o := { dst := none, op := _, type := _, pos := _, after := _, guard := _ }) rfl (fun K hK => ?_) AllReadyH.nil)
    go_simp
    refine hK.out _ _ (HSR.out _ (Hc.out.put _ HLP.out (pkC_one _)).one) (fun hHeld => ?_)
    clear hK K
    try simp only [Act.put, zsA, zsZ, zsS]
    have H2 := zh (Hc.out.put _ HLP.out (pkC_one _))
    generalize aggW _ _ _ = W3 at H2 hHeld ⊢
    generalize Wb.heap.size = m at H2 ⊢
    clear Ha Hb Hc hfc
    refine wpAnyH_done (by kernel_rfl) ?_ _
  rotate_left
  focus
    go_simp
    refine hK.out _ _ (HSR.out _ (ObjAt.alloc Ha.out.one _)) (fun hHeld => ?_)
    clear hK K
    try simp only [Act.put, zsA, zsZ, zsS]
    have Hb := zh (Bo3.alloc (V := 58) Ha.out zz38)
    skip
    refine wpAnyH_ready (rs := [6]) (by kernel_rfl) (by simp) (AllReadyH.cons (o := { dst := some 10, op := _, type := _, pos := _, after := _, guard := _ }) rfl (fun K hK => ?_) AllReadyH.nil)
    go_simp
    (go_at_call 68; (with_reducible refine (HN.out _).mono ?_); rintro x wn ⟨rfl, hb⟩; have Hc := zh (Hb.out.below hb); clear hb)
    try go_wp2_with fail
    refine hK.out _ _ (HSR.out _ Hc.out.one) (fun hHeld => ?_)
    clear hK K
    try simp only [Act.put, zsA, zsZ, zsS]
    have hfc := Hc.out.free 38 rfl
    refine wpAnyH_take (i := 7) (oi := { dst := some 11, op := _, type := _, pos := _, after := _, guard := _ }) (v := ?v8) rfl (by kernel_rfl) (by kernel_rfl) (by kernel_rfl) (fun _ _ _ h => h) (Or.inl ⟨by rfl, ?y8⟩) (by assumption) ?r8
    case y8 => (intro w hSw; obtain ⟨s1, s2, s3⟩ := hSw; go_simp; try with_reducible rfl)
    try simp only [Act.put, zsA, zsZ, zsS]
    refine wpAnyH_ready (rs := [9]) (by kernel_rfl) (by simp) (AllReadyH.cons (o := { dst := none, op := _, type := _, pos := _, after := _, guard := _ }) rfl (fun K hK => ?_) AllReadyH.nil)
    go_simp
    refine hK.out _ _ (HSR.out _ (Hc.out.put _ HLP.out (pkC_one _)).one) (fun hHeld => ?_)
    clear hK K
    try simp only [Act.put, zsA, zsZ, zsS]
    have H2 := zh (Hc.out.put _ HLP.out (pkC_one _))
    generalize aggW _ _ _ = W3 at H2 hHeld ⊢
    generalize wa.heap.size = m at H2 ⊢
    clear Ha Hb Hc hfc
    refine wpAnyH_done (by kernel_rfl) ?_ _
  rotate_left
  all_goals (
    rw [← zeroP_cells] at H2
    have c6 := HV6.out _ H2.out.one
    cases hv : s.tk.v6
    · replace H4 := zh (H4.out hv)
      rw [hv] at c6
      obtain rfl : q = 2 := by rw [HQ.out, hv]; rfl
      have g0 : W3.cell? ⟨m, 34, none⟩ = some (.int .i64 0) := (PV.of H2.out.three (HOK.out 0 1 a [])).2.2.2.2.1
      have f0 := ObjAt.free H2.out.three 34
      have H3 := zh (H2.out.set 34 (.int .i64 2))
      rw [pkC_set (tp0 s a) (HOK.out _ _ _ _) 0 (.int .i64 2) ⟨s.fr, s.tw, 2, 1, a, []⟩ rfl ⟨rfl, rfl⟩] at H3
      go_upto_region 6 with (fail)
      generalize World.setCell W3 _ _ = W4 at H3 ⊢
      clear g0 f0 c6 H2
      obtain ⟨s1, s2, s3⟩ := HSR.out _ H3.out.one
      go_upto_region 7 with (go_at_call 70; (with_reducible refine (H4.out _ H3.out.blw).mono ?_); rintro x w5 ⟨rfl, hb⟩; have H5 := zh (H3.out.below hb); clear hb s1 s2 s3; have g0 : w5.cell? ⟨m, 37, none⟩ = some (.string (Str [])) := (PV.of H5.out.three (HOK.out _ _ _ _)).2.2.2.2.2.2.2; have f0 := ObjAt.free H5.out.three 37)
      have H6 := zh (H5.out.set 37 (.string (Str B)))
      rw [pkC_set ⟨s.fr, s.tw, 2, 1, a, []⟩ (HOK.out _ _ _ _) 3 (.string (Str B)) ⟨s.fr, s.tw, 2, 1, a, B⟩ rfl ⟨rfl, rfl⟩] at H6
      generalize World.setCell w5 _ _ = W6 at H6 ⊢
      clear g0 f0
      have r6 := (PV.of H6.out.three (HOK.out _ _ _ _)).1
      have f6 := H6.out.freeR 38 rfl
      have k6 := fok_pk (HOK.out 2 1 a B)
      go_wp2
      obtain ⟨q1, q2⟩ := H6.out.done (pkC ⟨s.fr, s.tw, 2, 1, a, B⟩) (by rw [pkC_length (HOK.out _ _ _ _)]; rfl)
      exact bodyPost_ret (results_cell Tryz.results23 rfl (ld_some q1 (ldr_pk _ _ _))) rfl ⟨rfl, q2⟩
    · replace H6 := zh (H6.out hv)
      rw [hv] at c6
      obtain rfl : q = 58 := by rw [HQ.out, hv]; rfl
      have g0 : W3.cell? ⟨m, 34, none⟩ = some (.int .i64 0) := (PV.of H2.out.three (HOK.out 0 1 a [])).2.2.2.2.1
      have f0 := ObjAt.free H2.out.three 34
      have H3 := zh (H2.out.set 34 (.int .i64 58))
      rw [pkC_set (tp0 s a) (HOK.out _ _ _ _) 0 (.int .i64 58) ⟨s.fr, s.tw, 58, 1, a, []⟩ rfl ⟨rfl, rfl⟩] at H3
      go_upto_region 4 with (fail)
      generalize World.setCell W3 _ _ = W4 at H3 ⊢
      clear g0 f0 c6 H2
      obtain ⟨s1, s2, s3⟩ := HSR.out _ H3.out.one
      go_upto_region 7 with (go_at_call 69; (with_reducible refine (H6.out _ H3.out.blw).mono ?_); rintro x w5 ⟨rfl, hb⟩; have H5 := zh (H3.out.below hb); clear hb s1 s2 s3; have g0 : w5.cell? ⟨m, 37, none⟩ = some (.string (Str [])) := (PV.of H5.out.three (HOK.out _ _ _ _)).2.2.2.2.2.2.2; have f0 := ObjAt.free H5.out.three 37)
      have H7 := zh (H5.out.set 37 (.string (Str B)))
      rw [pkC_set ⟨s.fr, s.tw, 58, 1, a, []⟩ (HOK.out _ _ _ _) 3 (.string (Str B)) ⟨s.fr, s.tw, 58, 1, a, B⟩ rfl ⟨rfl, rfl⟩] at H7
      generalize World.setCell w5 _ _ = W6 at H7 ⊢
      clear g0 f0
      have r6 := (PV.of H7.out.three (HOK.out _ _ _ _)).1
      have f6 := H7.out.freeR 38 rfl
      have k6 := fok_pk (HOK.out 58 1 a B)
      go_wp2
      obtain ⟨q1, q2⟩ := H7.out.done (pkC ⟨s.fr, s.tw, 58, 1, a, B⟩) (by rw [pkC_length (HOK.out _ _ _ _)]; rfl)
      exact bodyPost_ret (results_cell Tryz.results23 rfl (ld_some q1 (ldr_pk _ _ _))) rfl ⟨rfl, q2⟩
  )
theorem ethC_ty (e : Eth) (ho : e.ok) (n : Int) : (ethC e).set 15 (.int .i64 n) = ethC ⟨Eth.to e, e.fr, e.tg, e.vl, e.pr, n, e.bd⟩ := by
  have l1 : (B8 (Eth.to e)).length = 6 := by rw [B8_length]; exact ho.1
  have l2 : (B8 e.fr).length = 6 := by rw [B8_length]; exact ho.2
  unfold ethC
  rw [List.set_append_right _ _ (by omega), List.set_append_right _ _ (by omega), l1, l2]
  rfl
theorem ethC_bd (e : Eth) (ho : e.ok) (b : List UInt8) : (ethC e).set 16 (.string (Str b)) = ethC ⟨Eth.to e, e.fr, e.tg, e.vl, e.pr, e.ty, b⟩ := by
  have l1 : (B8 (Eth.to e)).length = 6 := by rw [B8_length]; exact ho.1
  have l2 : (B8 e.fr).length = 6 := by rw [B8_length]; exact ho.2
  unfold ethC
  rw [List.set_append_right _ _ (by omega), List.set_append_right _ _ (by omega), l1, l2]
  rfl
theorem bld_four (t f : List UInt8) (b : Bool) (n : Int) (ht : t.length = 6) (hf : f.length = 6) (w0 : World) : (aggBuild 54 #[(0, .agg (B8 t).toArray), (1, .agg (B8 f).toArray), (2, .bool b), (3, .int .i64 n)]).run Tryz.prog w0 = .ok (.agg (ethC ⟨t, f, b, n, 0, 0, []⟩).toArray) w0 := by
  obtain ⟨a0, a1, a2, a3, a4, a5, rfl⟩ := list6 ht
  obtain ⟨b0, b1, b2, b3, b4, b5, rfl⟩ := list6 hf
  exact bld_run _ _ _ (by kernel_rfl) _
theorem Bo3.bx {w W : World} {m : Nat} {c d L : Array Value} {T U V : TypeId} (h : Bo3 w W m c T d U L V) : Bx w W c T d U := ⟨h.one, h.two, h.blw⟩
theorem Bo3.made {w W : World} {c d Z : Array Value} {T U V : TypeId} (h : Bx w W c T d U) (L : List Value) (hl : L.length = Z.size) (h1 : ∀ v ∈ L, v.oneCell' = true) : Bo3 w (aggW (W.alloc (.cells Z V)) W.heap.size L) W.heap.size c T d U L.toArray V := (Bo3.alloc (V := V) h Z).put L hl h1
theorem writeF_core (s : SD) (us ur : Value) (w : World) (ho : s.ok) (M : List UInt8) (hM : M.length = 6) (P : PK) (ty : Int) (B R : List UInt8)
    (hg : ∀ W, Below w.heap.size w W → Calls Tryz.prog 8 #[.agg (sdC s us ur).toArray] W fun x w' => x = .returned (.bool true) ∧ Below W.heap.size W w')
    (h1 : s.kind = 1 → ∀ W, Below w.heap.size w W → Calls Tryz.prog 23 #[.agg (sdC s us ur).toArray] W fun x w' => x = .returned (.agg (pkC P).toArray) ∧ Below W.heap.size W w')
    (h2 : s.kind ≠ 1 → ∀ W, Below w.heap.size w W → Calls Tryz.prog 24 #[.agg (sdC s us ur).toArray] W fun x w' => x = .returned (.agg (pkC P).toArray) ∧ Below W.heap.size W w')
    (hW : ∀ W, Calls Tryz.prog 22 #[.agg (pkC P).toArray] W fun x w' => x = .returned (.tuple #[.int .i64 ty, .string (Str B)]) ∧ Below W.heap.size W w')
    (hE : ∀ W, Calls Tryz.prog 25 #[.agg (ethC ⟨macG s.tw.1 s.tw.2, M, decide (0 < s.vl), s.vl, 0, ty, B⟩).toArray] W fun x w' => x = .returned (.tuple #[.string (Str R), .int .i64 0]) ∧ Below W.heap.size W w') :
    Calls Tryz.prog 7 #[.agg (sdC s us ur).toArray, .agg (B8 M).toArray] w fun x w' => x = .returned (.tuple #[.string (Str R), .int .i64 0]) ∧ Below w.heap.size w w' := by
  have H0 := zh (Bx.made w (sdC s us ur).toArray 30 (B8 M).toArray 32)
  have HG := zh hg
  have H1 := zh h1
  have H2 := zh h2
  have HW := zh hW
  have HE := zh hE
  have HV := zh (fun W (h : ObjAt W w.heap.size (sdC s us ur).toArray 30) => SV.of h ho.1 ho.2.1 ho.2.2.1)
  have HMC : Hid (∀ W, Calls Tryz.prog 21 #[.agg (adC s.tw).toArray] W fun x w' => x = .returned (.tuple #[.agg (B8 (macG s.tw.1 s.tw.2)).toArray, .bool (grpV s.tw.1 s.tw.2)]) ∧ Below W.heap.size W w') := zh fun W => mac_any s.tw.1 s.tw.2 ho.2.1 W
  have hT := macG_length s.tw.1 s.tw.2 ho.2.1
  generalize macG s.tw.1 s.tw.2 = D at HE HMC hT
  generalize grpV s.tw.1 s.tw.2 = g at HMC
  have HR6 : Hid (∀ W b (l : List UInt8), l.length = 6 → ObjAt W b (B8 l).toArray 32 → row? W b 0 6 = some (B8 l)) := zh fun W b l hl h => obj_re h (A := []) (M := B8 l) (C := []) (by simp) rfl (by rw [B8_length]; exact hl)
  have hk6 := fok_bytes D 6 hT
  have hfm6 := fun W => fmade W #[.int .u8 0, .int .u8 0, .int .u8 0, .int .u8 0, .int .u8 0, .int .u8 0] 32 6 rfl
  have hfmE := fun W => fmade W zze 54 17 rfl
  have hbl := fun b n w0 => bld_four D M b n hT hM w0
  have hkE := fun b n => fok_eth (e := ⟨D, M, b, n, 0, 0, []⟩) ⟨hT, hM⟩
  have HT := zh hT
  have HM := zh hM
  clear hg h1 h2 hW hE ho hT hM
  go_enter Tryz.func7, Tryz.ntmps7
  go_upto_region 1 with (fail)
  generalize (w.alloc (.cells (sdC s us ur).toArray 30)).alloc _ = W at H0 ⊢
  have r0 := (HV.out _ H0.out.one).1.1
  go_upto_region 3 with (go_at_call 8; (with_reducible refine (HG.out _ H0.out.blw).mono ?_); rintro x w1 ⟨rfl, hb⟩; replace H0 := zh (H0.out.below hb); clear hb r0)
  have r2 := (HV.out _ H0.out.one).1.2.2.1
  go_upto_region 4 with (go_at_call 21; (with_reducible refine (HMC.out _).mono ?_); rintro x w2 ⟨rfl, hb⟩; replace H0 := zh (H0.out.below hb); clear hb r2)
  have H3 := zh (Bo3.made (Z := #[.int .u8 0, .int .u8 0, .int .u8 0, .int .u8 0, .int .u8 0, .int .u8 0]) (V := 32) H0.out (B8 D) (by rw [B8_length, HT.out]; rfl) (B8_one D))
  generalize aggW (w2.alloc _) w2.heap.size _ = W3 at H3 ⊢
  generalize w2.heap.size = m at H3 ⊢
  clear H0 hfm6 hk6
  obtain ⟨-, ⟨-, c1, -, -⟩, -⟩ := HV.out _ H3.out.one
  have r3 := HR6.out _ _ _ HT.out H3.out.three
  have r4 := HR6.out _ _ _ HM.out H3.out.two
  obtain ⟨b, hb⟩ : ∃ b, b = decide (0 < s.vl) := ⟨_, rfl⟩
  rw [← hb] at HE
  have hd : decide (s.vl > 0) = b := hb.symm
  have hd2 : decide (0 < s.vl) = b := hb.symm
  have H5 := zh (Bo3.made (Z := zze) (V := 54) H3.out.bx (ethC ⟨D, M, b, s.vl, 0, 0, []⟩) (ethC_length (e := ⟨D, M, b, s.vl, 0, 0, []⟩) ⟨HT.out, HM.out⟩) (ethC_one _))
  clear hb
  go_upto_region 5 with (fail)
  generalize aggW (W3.alloc _) W3.heap.size _ = W5 at H5 ⊢
  generalize W3.heap.size = m5 at H5 ⊢
  clear r3 r4 c1 hfmE hbl hkE hd hd2 H3
  obtain ⟨⟨r0, -⟩, ⟨c0, -⟩, -⟩ := HV.out _ H5.out.one
  by_cases hk : s.kind = 1
  case' pos =>
    replace H1 := zh (H1.out hk)
    rw [hk] at c0
    clear hk H2
    go_upto_region 8 with (first
      | (go_at_call 23; (with_reducible refine (H1.out _ H5.out.blw).mono ?_); rintro x w6 ⟨rfl, hb⟩; have H6 := zh (H5.out.below hb); clear hb c0 r0)
      | (go_at_call 22; (with_reducible refine (HW.out _).mono ?_); rintro x w7 ⟨rfl, hb⟩; have H7 := zh (H6.out.below hb); clear hb; have g1 := EthAt.ty H7.out.three (e := ⟨D, M, b, s.vl, 0, 0, []⟩) ⟨HT.out, HM.out⟩; have g2 := EthAt.bd H7.out.three (e := ⟨D, M, b, s.vl, 0, 0, []⟩) ⟨HT.out, HM.out⟩; have f1 := ObjAt.free H7.out.three 15; have f2 := ObjAt.free H7.out.three 16))
  case' neg =>
    have tk : (s.kind == 1) = false := by simpa using hk
    replace H2 := zh (H2.out hk)
    clear hk H1
    go_upto_region 8 with (first
      | (go_at_call 24; (with_reducible refine (H2.out _ H5.out.blw).mono ?_); rintro x w6 ⟨rfl, hb⟩; have H6 := zh (H5.out.below hb); clear hb c0 r0)
      | (go_at_call 22; (with_reducible refine (HW.out _).mono ?_); rintro x w7 ⟨rfl, hb⟩; have H7 := zh (H6.out.below hb); clear hb; have g1 := EthAt.ty H7.out.three (e := ⟨D, M, b, s.vl, 0, 0, []⟩) ⟨HT.out, HM.out⟩; have g2 := EthAt.bd H7.out.three (e := ⟨D, M, b, s.vl, 0, 0, []⟩) ⟨HT.out, HM.out⟩; have f1 := ObjAt.free H7.out.three 15; have f2 := ObjAt.free H7.out.three 16))
  all_goals (
    have H8 := zh ((H7.out.set 15 (.int .i64 ty)).set 16 (.string (Str B)))
    rw [ethC_ty ⟨D, M, b, s.vl, 0, 0, []⟩ ⟨HT.out, HM.out⟩, ethC_bd ⟨D, M, b, s.vl, 0, ty, []⟩ ⟨HT.out, HM.out⟩] at H8
    generalize World.setCell (World.setCell w7 _ _) _ _ = W8 at H8 ⊢
    clear g1 g2 f1 f2
    have r8 := EthAt.row H8.out.three (e := ⟨D, M, b, s.vl, 0, ty, B⟩) ⟨HT.out, HM.out⟩
    go_wp2_with (go_at_call 25; (with_reducible refine (HE.out _).mono ?_); rintro x w9 ⟨rfl, hb⟩; have H9 := zh (H8.out.below hb); clear hb)
    go_ret2
    exact ⟨rfl, H9.out.blw⟩)
end Go.Proofs.YtlbdehegknehiaaGreat

/- A part of the proof. -/
namespace Go.Proofs.YtlbdehegknehiaaGreat
open Go.RowKit
set_option linter.unusedVariables false
theorem eq_mac (m m' : List UInt8) (hm : m.length = 6) (hm' : m'.length = 6) (w : World) :
    (Op.equalIn 10000 32 (.agg (B8 m).toArray) (.agg (B8 m').toArray)).run Tryz.prog w = .ok (decide (m = m')) w := by
  obtain ⟨i8, hi8⟩ := info_of Tryz.underlying5
  exact run_eq_bytes_d (P := Tryz.prog) Tryz.underlying32 Tryz.underlying5 (by kernel_rfl) hi8 (by kernel_rfl) m m' hm hm' 9998 w
end Go.Proofs.YtlbdehegknehiaaGreat

/- A part of the proof. -/
namespace Go.Proofs.YtlbdehegknehiaaGreat
set_option maxRecDepth 100000
set_option maxHeartbeats 1000000
open Go.RowKit
set_option linter.unusedVariables false
set_option linter.unusedSimpArgs false
attribute [local go_sem ↓] ld_addr st_addr bld_addr
attribute [local go_sem] ldr_addr str_addr row?_drew_eq
abbrev pv (b0 : Nat) : Value := .agg #[.pointer (some ⟨b0, 0, none⟩)]
structure PB (w W : World) (b0 : Nat) (l : List UInt8) (k : Nat) (bad : Bool) : Prop where
  rd : RdAt W b0 l k bad
  pp : ObjAt W w.heap.size #[.pointer (some ⟨b0, 0, none⟩)] 192
  frm : w.grownBy W (some b0)
  lt : b0 < w.heap.size
theorem PB.start {w : World} {b0 : Nat} {l : List UInt8} {k : Nat} {bad : Bool} (h : RdAt w b0 l k bad) : PB w (w.alloc (.cells #[.pointer (some ⟨b0, 0, none⟩)] 192)) b0 l k bad :=
  ⟨ObjAt.alloc h _, ObjAt.made w _ _, qof ((Below.refl _ _).alloc (Nat.le_refl _) _), ObjAt.lt h⟩
theorem PB.call {w W W' : World} {b0 : Nat} {l l' : List UInt8} {k k' : Nat} {bad bad' : Bool} (h : PB w W b0 l k bad) (hr : RdAt W' b0 l' k' bad') (hg : W.grownBy W' (some b0)) : PB w W' b0 l' k' bad' :=
  ⟨hr, ObjAt.grown h.pp hg (by have := h.lt; simp; omega), gtrans h.frm hg, h.lt⟩
theorem PB.below {w W W' : World} {b0 : Nat} {l : List UInt8} {k : Nat} {bad : Bool} (h : PB w W b0 l k bad) (hb : Below W.heap.size W W') : PB w W' b0 l k bad :=
  ⟨ObjAt.below h.rd hb (ObjAt.lt h.rd), h.pp.below hb h.pp.lt, qbelow h.frm (hb.mono h.frm.size), h.lt⟩
theorem PB.c {w W : World} {b0 : Nat} {l : List UInt8} {k : Nat} {bad : Bool} (h : PB w W b0 l k bad) : W.cell? ⟨w.heap.size, 0, none⟩ = some (.pointer (some ⟨b0, 0, none⟩)) := by rw [ObjAt.cell h.pp]; rfl
theorem pnum_any (b0 : Nat) (l : List UInt8) (k : Nat) (bad : Bool) (n : Nat) (hn : n ≤ 4) (hl : l.length ≤ 1000000) (hk : k ≤ 1000000) (w : World) (h : RdAt w b0 l k bad) :
    Calls Tryz.prog 206 #[pv b0, .int .i64 n] w fun x w' => x = .returned (.int .i64 (num (takeV l bad n))) ∧ RdAt w' b0 (leftV l bad n) (pastV l bad n k) (badV l bad n) ∧ w.grownBy w' (some b0) := by
  have HN := zh (fun W (h : RdAt W b0 l k bad) => numq_any b0 l k bad n (by omega) hl hk W h)
  have h1 := num_takeV l bad n hn
  have h2 : 256 ^ n ≤ 4294967296 := Nat.le_trans (Nat.pow_le_pow_right (by omega) hn) (by decide : 256 ^ 4 ≤ 4294967296)
  have H0 := zh (PB.start h)
  generalize num (takeV l bad n) = m at *
  generalize leftV l bad n = l' at *
  generalize pastV l bad n k = k' at *
  generalize badV l bad n = bad' at *
  have hw : IntKind.i64.wrap (m : Int) = (m : Int) := by simp only [IntKind.wrap_i64]; omega
  clear h1 h2 h
  unfold pv
  go_enter Tryz.func206, Tryz.ntmps206
  go_upto_region 1 with (fail)
  generalize w.alloc (.cells #[.pointer (some ⟨b0, 0, none⟩)] 192) = W at H0 ⊢
  have c0 := H0.out.c
  go_wp2_with (go_at_call 84; (with_reducible refine (HN.out _ H0.out.rd).mono ?_); rintro x w1 ⟨rfl, h9, k9⟩; have H1 := zh (H0.out.call h9 k9); clear h9 k9)
  go_ret
  exact ⟨rfl, H1.out.rd, H1.out.frm⟩
theorem pchk_any (b0 : Nat) (l : List UInt8) (k : Nat) (bad : Bool) (hl : l.length ≤ 1000000) (hk : k ≤ 1000000) (w : World) (h : RdAt w b0 l k bad) :
    Calls Tryz.prog 220 #[pv b0] w fun x w' => x = .returned (.tuple #[]) ∧ RdAt w' b0 (leftV l bad 2) (pastV l bad 2 k) (badV l bad 2) ∧ w.grownBy w' (some b0) := by
  have HN := zh (fun W (h : RdAt W b0 l k bad) => take_any b0 l k bad 2 hl hk W h)
  have H0 := zh (PB.start h)
  generalize leftV l bad 2 = l' at *
  generalize pastV l bad 2 k = k' at *
  generalize badV l bad 2 = bad' at *
  generalize takeV l bad 2 = t at *
  clear h
  unfold pv
  go_enter Tryz.func220, Tryz.ntmps220
  go_upto_region 1 with (fail)
  generalize w.alloc (.cells #[.pointer (some ⟨b0, 0, none⟩)] 192) = W at H0 ⊢
  have c0 := H0.out.c
  go_wp2_with (go_at_call 162; (with_reducible refine (HN.out _ H0.out.rd).mono ?_); rintro x w1 ⟨rfl, h9, k9⟩; have H1 := zh (H0.out.call h9 k9); clear h9 k9)
  go_end0
  exact ⟨rfl, H1.out.rd, H1.out.frm⟩
theorem pend_any (b0 : Nat) (l : List UInt8) (k : Nat) (bad : Bool) (w : World) (h : RdAt w b0 l k bad) :
    Calls Tryz.prog 233 #[pv b0] w fun x w' => x = .returned (.int .i64 (if bad then 3 else 0)) ∧ Below w.heap.size w w' := by
  have HN := zh (fun W (h : RdAt W b0 l k bad) => bad_any b0 l k bad W h)
  have H0 := zh (And.intro (PB.start h) ((Below.refl w.heap.size w).alloc (Nat.le_refl _) (.cells #[.pointer (some ⟨b0, 0, none⟩)] 192)))
  clear h
  unfold pv
  cases bad with
  | true =>
    go_enter Tryz.func233, Tryz.ntmps233
    go_upto_region 1 with (fail)
    generalize w.alloc (.cells #[.pointer (some ⟨b0, 0, none⟩)] 192) = W at H0 ⊢
    have c0 := H0.out.1.c
    go_wp2_with (go_at_call 87; (with_reducible refine (HN.out _ H0.out.1.rd).mono ?_); rintro x w1 ⟨rfl, h9⟩; subst h9)
    go_ret
    exact ⟨rfl, H0.out.2⟩
  | false =>
    go_enter Tryz.func233, Tryz.ntmps233
    go_upto_region 1 with (fail)
    generalize w.alloc (.cells #[.pointer (some ⟨b0, 0, none⟩)] 192) = W at H0 ⊢
    have c0 := H0.out.1.c
    go_wp2_with (go_at_call 87; (with_reducible refine (HN.out _ H0.out.1.rd).mono ?_); rintro x w1 ⟨rfl, h9⟩; subst h9)
    go_ret
    exact ⟨rfl, H0.out.2⟩
def ad4 (t : List UInt8) : AD := if t.length = 4 then (false, readV t) else zeroA
theorem ad4_ok (t : List UInt8) : adOk (ad4 t) := by
  unfold ad4; split
  · rename_i h; exact readV_length _ (by omega)
  · exact zeroA_ok
theorem read_took4 (l : List UInt8) (bad : Bool) (w : World) : ∃ c, Calls Tryz.prog 215 #[.string (Str (takeV l bad 4))] w fun e w' => e = .returned (.tuple #[.agg (adC (ad4 (takeV l bad 4))).toArray, .int .i64 c]) ∧ Below w.heap.size w w' := by
  by_cases h : (takeV l bad 4).length = 4
  · refine ⟨0, ?_⟩
    have := read_good false (takeV l bad 4) (by omega) (by rw [h]; rfl) (by rw [h]; rfl) w
    unfold ad4
    rw [if_pos h]
    exact this
  · refine ⟨2, ?_⟩
    have h0 : takeV l bad 4 = [] := takeV_all l bad 4 h
    have := read_bad (takeV l bad 4) (by rw [h0]; simp) (by rw [h0]; rfl) (by rw [h0]; rfl) w
    unfold ad4
    rw [if_neg h]
    exact this
structure PA (w W : World) (b0 : Nat) (l : List UInt8) (k : Nat) (bad : Bool) : Prop where
  pb : PB w W b0 l k bad
  res : ObjAt W (w.heap.size + 1) zz17 24
theorem PA.start {w : World} {b0 : Nat} {l : List UInt8} {k : Nat} {bad : Bool} (h : RdAt w b0 l k bad) : PA w ((w.alloc (.cells #[.pointer (some ⟨b0, 0, none⟩)] 192)).alloc (.cells zz17 24)) b0 l k bad := by
  refine ⟨(PB.start h).below ((Below.refl _ _).alloc (Nat.le_refl _) _), ?_⟩
  have := ObjAt.made (w.alloc (.cells #[.pointer (some ⟨b0, 0, none⟩)] 192)) zz17 24
  rw [show (w.alloc (.cells #[.pointer (some ⟨b0, 0, none⟩)] 192)).heap.size = w.heap.size + 1 by simp] at this
  exact this
theorem PA.call {w W W' : World} {b0 : Nat} {l l' : List UInt8} {k k' : Nat} {bad bad' : Bool} (h : PA w W b0 l k bad) (hr : RdAt W' b0 l' k' bad') (hg : W.grownBy W' (some b0)) : PA w W' b0 l' k' bad' :=
  ⟨h.pb.call hr hg, ObjAt.grown h.res hg (by have := h.pb.lt; simp; omega)⟩
theorem PA.below {w W W' : World} {b0 : Nat} {l : List UInt8} {k : Nat} {bad : Bool} (h : PA w W b0 l k bad) (hb : Below W.heap.size W W') : PA w W' b0 l k bad := ⟨h.pb.below hb, h.res.below hb h.res.lt⟩
theorem PA.done {w W : World} {b0 : Nat} {l : List UInt8} {k : Nat} {bad : Bool} (h : PA w W b0 l k bad) (cs : List Value) (hc : cs.length = 17) :
    row? (aggW W (w.heap.size + 1) cs) (w.heap.size + 1) 0 17 = some cs ∧ RdAt (aggW W (w.heap.size + 1) cs) b0 l k bad ∧ w.grownBy (aggW W (w.heap.size + 1) cs) (some b0) :=
  ⟨aggW_row (obj_free h.res (by simp)) hc, aggW_other h.pb.rd _ (by have := h.pb.lt; omega), qbelow h.pb.frm (aggW_below (Below.refl _ _) (by omega) _)⟩
theorem paddr_any (b0 : Nat) (l : List UInt8) (k : Nat) (bad : Bool) (hl : l.length ≤ 1000000) (hk : k ≤ 1000000) (w : World) (h : RdAt w b0 l k bad) :
    Calls Tryz.prog 221 #[pv b0] w fun x w' => x = .returned (.agg (adC (ad4 (takeV l bad 4))).toArray) ∧ RdAt w' b0 (leftV l bad 4) (pastV l bad 4 k) (badV l bad 4) ∧ w.grownBy w' (some b0) := by
  have HT := zh (PA.start h)
  have HR : Hid (∀ W, RdAt W b0 l k bad → Calls Tryz.prog 162 #[.pointer (some ⟨b0, 0, none⟩), .int .i64 4] W fun e w' => e = .returned (.string (Str (takeV l bad 4))) ∧ RdAt w' b0 (leftV l bad 4) (pastV l bad 4 k) (badV l bad 4) ∧ W.grownBy w' (some b0)) := zh fun W hW => take_any b0 l k bad 4 hl hk W hW
  have HA := zh (fun W => read_took4 l bad W)
  have hal := ad4_ok (takeV l bad 4)
  have hfok : fok (adC (ad4 (takeV l bad 4))).toArray 17 = true := fok_addr _ _ hal
  have HL := zh (adC_length hal)
  generalize adC (ad4 (takeV l bad 4)) = A at *
  generalize takeV l bad 4 = t at HR HA
  generalize leftV l bad 4 = l' at HR ⊢
  generalize pastV l bad 4 k = k' at HR ⊢
  generalize badV l bad 4 = bad' at HR ⊢
  clear h hal
  unfold pv
  go_enter Tryz.func221, Tryz.ntmps221
  go_upto_region 1 with (fail)
  generalize (w.alloc (.cells #[.pointer (some ⟨b0, 0, none⟩)] 192)).alloc (.cells zz17 24) = W at HT ⊢
  have c0 := HT.out.pb.c
  have hfm : ∀ W : World, free? (W.alloc (.cells zz17 24)) W.heap.size 0 17 = true := fun W => free_made W _ _ 17 (by simp)
  go_upto_region 2 with (first
    | (go_at_call 162; refine (HR.out _ HT.out.pb.rd).mono ?_; rintro e w1 ⟨rfl, hr1, hg1⟩; have HT1 := zh (HT.out.call hr1 hg1); clear hr1 hg1)
    | (go_at_call 215; obtain ⟨c, hc⟩ := HA.out w1; refine hc.mono ?_; rintro e w2 ⟨rfl, hb2⟩; clear hc; have HT2 := zh (HT1.out.below hb2); clear hb2))
  have hlt := HT2.out.res.lt
  have hm := aggW_row (cs := A) (hfm w2) HL.out
  have HT3 := zh (HT2.out.below (aggW_below ((Below.refl w2.heap.size w2).alloc (Nat.le_refl _) (.cells zz17 24)) (Nat.le_refl _) A))
  have hf3 : free? (aggW (w2.alloc (.cells zz17 24)) w2.heap.size A) (w.heap.size + 1) 0 17 = true := obj_free HT3.out.res (by simp)
  generalize aggW (w2.alloc (.cells zz17 24)) w2.heap.size A = W3 at HT3 hf3 hm ⊢
  go_wp2
  obtain ⟨q1, q2, q3⟩ := HT3.out.done A HL.out
  exact bodyPost_ret (results_cell Tryz.results221 rfl (ld_some q1 (ldr_addr _ _ _))) rfl ⟨rfl, q2, q3⟩
theorem each_any (g : Nat) (lb : Array Value) (eg : ∀ args w, (callFunc g args).run Tryz.prog w = .ok (.enter g args) w) (n : Nat) (hn : n ≤ 64) (I : Nat → World → Prop) (E : Int → World → Prop) (w : World) (h0 : I 0 w)
    (H : ∀ k W, k < n → I k W → Calls Tryz.prog g lb W fun x W' => ∃ e : Int, x = .returned (.int .i64 e) ∧ (e = 0 → I (k + 1) W') ∧ (e ≠ 0 → E e W')) :
    Calls Tryz.prog 223 #[.int .i64 n, .int .i64 64, .func (.func g) #[] lb] w fun x W' => ∃ e : Int, x = .returned (.int .i64 e) ∧ (e = 0 → I n W') ∧ (e ≠ 0 → E e W') := by
  have HH := zh H
  have H0 := zh h0
  clear H h0
  have t1 : decide (64 < (n : Int)) = false := decide_eq_false (by omega)
  go_enter Tryz.func223, Tryz.ntmps223
  go_wp2_with fail
  go_loopw [12] (fun i wr => ∃ k : Nat, k ≤ n ∧ i = .int .i64 k ∧ Hid (I k wr)) (fun i _ => n - (intOf i).toNat)
  case atStart => exact ⟨0, by omega, rfl, H0⟩
  case round =>
    obtain ⟨k, hk, rfl, HI⟩ := hrel
    by_cases hlt : k < n
    · have hd : decide ((k : Int) < (n : Int)) = true := by simp; omega
      have hk1 : (k : Int) < (n : Int) := by omega
      have hw1 : IntKind.i64.wrap ((k : Int) + 1) = (k : Int) + 1 := by simp only [IntKind.wrap_i64]; omega
      have HC := zh (HH.out k wr hlt HI.out)
      go_upto_region 6 with (go_at_fn g; (with_reducible refine (HC.out).mono ?_); rintro x w1 ⟨e, rfl, h1, h2⟩; have HA := zh h1; have HE := zh h2; clear h1 h2)
      by_cases he : e = 0
      · subst he
        have t2 : ((0 : Int) != 0) = false := rfl
        have HI2 := zh (HA.out rfl)
        go_wp2
        go_roundw
        case rel => exact ⟨k + 1, by omega, by go_num, HI2⟩
        case measure => simp [intOf]; omega
      · have t2 : (e != 0) = true := by simpa using he
        have HE2 := zh (HE.out he)
        have HNE := zh he
        clear he
        go_wp2
        go_ret
        exact ⟨e, rfl, fun h => absurd h HNE.out, fun _ => HE2.out⟩
    · have hd : ¬ (k : Int) < (n : Int) := by omega
      have hkn : k = n := by omega
      subst hkn
      go_wp2
      go_ret
      exact ⟨0, rfl, fun _ => HI.out, fun h => absurd rfl h⟩
theorem each_long (f : Value) (n : Nat) (hn : 64 < n) (hw : n < 1000000) (w : World) :
    Calls Tryz.prog 223 #[.int .i64 n, .int .i64 64, f] w fun x W' => x = .returned (.int .i64 6) ∧ W' = w := by
  have t1 : decide (64 < (n : Int)) = true := decide_eq_true (by omega)
  go_enter Tryz.func223, Tryz.ntmps223
  go_wp2
  go_ret
  exact ⟨rfl, rfl⟩
end Go.Proofs.YtlbdehegknehiaaGreat

