/-
  The walk of FilterLets.
-/
import Derived.Test.YtokpogoblnhihaaFtV
namespace Go.Proofs.Ytokpogoblnhihaa
open Go.RowKit
set_option linter.unusedVariables false
set_option linter.unusedSimpArgs false
attribute [local go_sem ↓] ld_addr st_addr bld_addr ld_sta st_sta bld_sta ld_sp st_sp bld_sp adsLit_eq
attribute [local go_sem] ldr_addr str_addr ldr_sta str_sta ldr_sp str_sp row?_drewN_eq row?_drew_eq

theorem expS_good {s : ST} (h : s.Good) (l : List AD) : (expS s l).Good := by
  obtain ⟨h1, h2, h3, h4⟩ := h
  unfold expS
  refine ⟨h1.pick _ _, ?_, ?_, ?_⟩
  · show SetA (if s.ex then orA s.off (pickA s.on l true) else s.off)
    split
    · exact SetA.or _ _
    · exact h2
  · intro x hx
    obtain ⟨x1, x2⟩ := mem_pickA.1 hx
    show x ∉ (if s.ex then orA s.off (pickA s.on l true) else s.off)
    split
    · intro hy
      have hg := ((mem_ofA _ _).1 hy).1
      rw [List.mem_append] at hg
      rcases hg with hg | hg
      · exact h3 x x1 hg
      · obtain ⟨y1, y2⟩ := mem_pickA.1 hg
        simp_all
    · exact h3 x x1
  · intro he
    have he : s.ex = false := he
    show (if s.ex then orA s.off (pickA s.on l true) else s.off) = []
    rw [he]
    simp only [Bool.false_eq_true, if_false]
    exact h4 he
theorem expS_len {s : ST} (l : List AD) {n : Nat} (h1 : s.on.length ≤ n) (h2 : s.off.length ≤ n) : (expS s l).on.length ≤ n + n ∧ (expS s l).off.length ≤ n + n := by
  unfold expS
  refine ⟨Nat.le_trans (List.length_filter_le _ _) (by omega), ?_⟩
  show (if s.ex then orA s.off (pickA s.on l true) else s.off).length ≤ n + n
  split
  · refine Nat.le_trans (ofA_length _) ?_
    rw [List.length_append]
    have : (pickA s.on l true).length ≤ s.on.length := List.length_filter_le _ _
    omega
  · omega
def turS (s : ST) : ST := ⟨false, s.on, []⟩
theorem turS_good {s : ST} (h : s.Good) : (turS s).Good := ⟨h.on, SetA.nil, fun x _ hy => (by cases hy), fun _ => rfl⟩
def letS (s : ST) (c : AD) : Bool := if s.ex then !decide (c ∈ s.off) else decide (c ∈ s.on)
def gonS (s : ST) : Bool := !s.ex && decide (s.on = [])
theorem gon_let {s : ST} {c : AD} (h : gonS s = true) : letS s c = false := by
  unfold gonS at h
  unfold letS
  simp only [Bool.and_eq_true, Bool.not_eq_true', decide_eq_true_eq] at h
  rw [h.1, h.2]
  simp
/-- What FilterLets holds: the state and the address boxed, their slices and the list. -/
structure LtB (w : World) (e : Bool) (a y : Value) (F : ST) (vl : Value) (L : List AD) (C : Array Value) (W : World) : Prop where
  blw : Below w.heap.size w W
  one : ObjAt W w.heap.size (stC e a y).toArray 24
  adr : ObjAt W (w.heap.size + 1) C 37
  st : StT W a y F
  vl : AdsT W vl L
theorem LtB.keep {w : World} {e : Bool} {a y : Value} {F : ST} {vl : Value} {L : List AD} {C : Array Value} (W W' : World) (h : LtB w e a y F vl L C W) (hb : Below W.heap.size W W') : LtB w e a y F vl L C W' := ⟨bstep h.blw hb, obj_keep h.one hb, obj_keep h.adr hb, h.st.below hb, h.vl.below hb⟩
theorem LtB.put {w W : World} {e : Bool} {a y : Value} {F : ST} {vl : Value} {L : List AD} {C : Array Value} {m : Nat} {Z : List Value} {cs : List Value} (h : LtB w e a y F vl L C W) (hm : w.heap.size + 1 < m) (ho : ObjAt W m Z.toArray 24) : LtB w e a y F vl L C (aggW W m cs) :=
  ⟨aggW_below h.blw (by omega) _, aggW_other h.one _ (by omega), aggW_other h.adr _ (by omega), h.st.off' ho (by decide) (aggW_grown _ _ _), AdsT.off h.vl ho (by decide) (aggW_grown _ _ _)⟩
/-- The same, and the blocks that have been made so far. -/
structure LtS (w : World) (e : Bool) (a y : Value) (F : ST) (vl : Value) (L : List AD) (C : Array Value) (p7 p8 : Option Nat) (W : World) : Prop where
  b : LtB w e a y F vl L C W
  h7 : ∀ m, p7 = some m → w.heap.size + 1 < m ∧ ObjAt W m #[.bool false, .slice none 0 0, .slice none 0 0] 24
  h8 : ∀ m, p8 = some m → w.heap.size + 1 < m ∧ ObjAt W m #[.bool false, .slice none 0 0, .slice none 0 0] 24
  ne : ∀ a b, p7 = some a → p8 = some b → a ≠ b
section
variable {w W W' : World} {e : Bool} {a y : Value} {F : ST} {vl : Value} {L : List AD} {C : Array Value} {p7 p8 : Option Nat}
theorem LtS.below (h : LtS w e a y F vl L C p7 p8 W) (hb : Below W.heap.size W W') : LtS w e a y F vl L C p7 p8 W' :=
  ⟨LtB.keep _ _ h.b hb, fun m q => ⟨(h.h7 m q).1, obj_keep (h.h7 m q).2 hb⟩, fun m q => ⟨(h.h8 m q).1, obj_keep (h.h8 m q).2 hb⟩, h.ne⟩
theorem LtS.start (h : LtB w e a y F vl L C W) : LtS w e a y F vl L C none none W := ⟨h, fun m q => (by cases q), fun m q => (by cases q), fun a b q => (by cases q)⟩
theorem LtS.a7 (h : LtS w e a y F vl L C none p8 W) : LtS w e a y F vl L C (some W.heap.size) p8 (W.alloc (.cells #[.bool false, .slice none 0 0, .slice none 0 0] 24)) := by
  have k := h.below (bbox W (.cells #[.bool false, .slice none 0 0, .slice none 0 0] 24))
  have lt := h.b.adr.lt
  exact ⟨k.b, fun m q => (by cases q; exact ⟨lt, ObjAt.made W _ _⟩), k.h8, fun a b e1 e2 => (by cases e1; have := (h.h8 b e2).2.lt; omega)⟩
theorem LtS.a8 (h : LtS w e a y F vl L C p7 none W) : LtS w e a y F vl L C p7 (some W.heap.size) (W.alloc (.cells #[.bool false, .slice none 0 0, .slice none 0 0] 24)) := by
  have k := h.below (bbox W (.cells #[.bool false, .slice none 0 0, .slice none 0 0] 24))
  have lt := h.b.adr.lt
  exact ⟨k.b, k.h7, fun m q => (by cases q; exact ⟨lt, ObjAt.made W _ _⟩), fun a b e1 e2 => (by cases e2; have := (h.h7 a e1).2.lt; omega)⟩
end
/-- The first one is stored. -/
structure LtP (w : World) (e : Bool) (a y : Value) (F : ST) (vl : Value) (L : List AD) (C : Array Value) (m7 m8 : Nat) (a3 y3 : Value) (E : ST) (a5 y5 : Value) (T : ST) (W : World) : Prop where
  b : LtB w e a y F vl L C W
  l7 : w.heap.size + 1 < m7
  l8 : w.heap.size + 1 < m8
  ne : m7 ≠ m8
  o7 : ObjAt W m7 (stC e a3 y3).toArray 24
  o8 : ObjAt W m8 #[.bool false, .slice none 0 0, .slice none 0 0] 24
  s7 : StT W a3 y3 E
  s8 : StT W a5 y5 T
theorem LtS.store {w W : World} {e : Bool} {a y : Value} {F : ST} {vl : Value} {L : List AD} {C : Array Value} {m7 m8 : Nat} {a3 y3 : Value} {E : ST} {a5 y5 : Value} {T : ST} (h : LtS w e a y F vl L C (some m7) (some m8) W) (h7 : StT W a3 y3 E) (h8 : StT W a5 y5 T) : LtP w e a y F vl L C m7 m8 a3 y3 E a5 y5 T (aggW W m7 (stC e a3 y3)) := by
  obtain ⟨l7, o7⟩ := h.h7 _ rfl
  obtain ⟨l8, o8⟩ := h.h8 _ rfl
  have ne := h.ne _ _ rfl rfl
  exact ⟨h.b.put (Z := [.bool false, .slice none 0 0, .slice none 0 0]) l7 o7, l7, l8, ne, aggW_obj (L := [.bool false, .slice none 0 0, .slice none 0 0]) o7 rfl (h7.sta.one e), aggW_other o8 _ (fun q => ne q.symm), h7.off' o7 (by decide) (aggW_grown _ _ _), h8.off' o7 (by decide) (aggW_grown _ _ _)⟩
/-- Both are stored. -/
structure LtQ (w : World) (e : Bool) (a y : Value) (F : ST) (vl : Value) (L : List AD) (C : Array Value) (m7 m8 : Nat) (a3 y3 : Value) (E : ST) (a5 y5 : Value) (T : ST) (W : World) : Prop where
  b : LtB w e a y F vl L C W
  o7 : ObjAt W m7 (stC e a3 y3).toArray 24
  o8 : ObjAt W m8 (stC false a5 y5).toArray 24
  s7 : StT W a3 y3 E
  s8 : StT W a5 y5 T
section
variable {w W W' : World} {e : Bool} {a y : Value} {F : ST} {vl : Value} {L : List AD} {C : Array Value} {m7 m8 : Nat} {a3 y3 : Value} {E : ST} {a5 y5 : Value} {T : ST}
theorem LtP.store (h : LtP w e a y F vl L C m7 m8 a3 y3 E a5 y5 T W) : LtQ w e a y F vl L C m7 m8 a3 y3 E a5 y5 T (aggW W m8 (stC false a5 y5)) :=
  ⟨h.b.put (Z := [.bool false, .slice none 0 0, .slice none 0 0]) h.l8 h.o8, aggW_other h.o7 _ h.ne, aggW_obj (L := [.bool false, .slice none 0 0, .slice none 0 0]) h.o8 rfl (h.s8.sta.one false), h.s7.off' h.o8 (by decide) (aggW_grown _ _ _), h.s8.off' h.o8 (by decide) (aggW_grown _ _ _)⟩
theorem LtQ.keep (W W' : World) (h : LtQ w e a y F vl L C m7 m8 a3 y3 E a5 y5 T W) (hb : Below W.heap.size W W') : LtQ w e a y F vl L C m7 m8 a3 y3 E a5 y5 T W' := ⟨LtB.keep _ _ h.b hb, obj_keep h.o7 hb, obj_keep h.o8 hb, h.s7.below hb, h.s8.below hb⟩
end
theorem LtQ.facts {w W : World} {e : Bool} {a y : Value} {F : ST} {vl : Value} {L : List AD} {C : Array Value} {m7 m8 : Nat} {a3 y3 : Value} {E : ST} {a5 y5 : Value} {T : ST} (h : LtQ w e a y F vl L C m7 m8 a3 y3 E a5 y5 T W) : row? W w.heap.size 0 3 = some (stC e a y) ∧ row? W m7 0 3 = some (stC e a3 y3) ∧ row? W m8 0 3 = some (stC false a5 y5) := ⟨st_row h.b.one, st_row h.o7, st_row h.o8⟩
def LQ (w : World) (e : Bool) (a y : Value) (F : ST) (vl : Value) (L : List AD) (C : Array Value) (E T : ST) (p7 p8 : Value) (W : World) : Prop := ∃ m7 m8 a3 y3 a5 y5, p7 = .pointer (some ⟨m7, 0, none⟩) ∧ p8 = .pointer (some ⟨m8, 0, none⟩) ∧ LtQ w e a y F vl L C m7 m8 a3 y3 E a5 y5 T W

set_option maxRecDepth 100000 in
set_option maxHeartbeats 16000000 in
theorem fletsL_any (s : ST) (c : AD) (hc : adOk c) (a y vl : Value) (l : List AD) (w : World) (h : StA w a y s) (hl : Ads w vl l) : Calls Try.prog 4 #[.agg (stC s.ex a y).toArray, .agg (adC c).toArray, vl] w fun x w' => x = .returned (.bool true) ∧ Below w.heap.size w w' := by
  have H0 := Lib.hid (Bx.made w (stC s.ex a y).toArray 24 (adC c).toArray 37)
  have HF1 : Hid (∀ W, Below w.heap.size w W → Calls Try.prog 7 #[.agg (stC s.ex a y).toArray] W fun x w' => ∃ a' y', x = .returned (.agg (stC s.ex a' y').toArray) ∧ Below W.heap.size W w' ∧ StT w' a' y' (fewS15 s)) := Lib.hid fun W hb => lfew15_any s a y W (h.below hb)
  have HA1 : Hid (∀ W, Below w.heap.size w W → Calls Try.prog 8 #[vl, .int .i64 6] W fun x w' => ∃ p n c, x = .returned (.slice p n c) ∧ Below W.heap.size W w' ∧ AdsT w' (.slice p n c) (l.take 6)) := Lib.hid fun W hb => (laddrs_own vl l 6 (by omega) W (hl.below hb)).mono fun x w' ⟨v, hx, hb2, ho⟩ => by
    obtain ⟨p, n, c, rfl⟩ := ho.shape
    exact ⟨p, n, c, hx, hb2, ho.ads (fun x hx => hl.ok x (List.mem_of_mem_take hx))⟩
  obtain ⟨F, HFE⟩ : ∃ F, Hid (F = fewS15 s) := ⟨_, Lib.hid rfl⟩
  obtain ⟨L, HLE⟩ : ∃ L, Hid (L = l.take 6) := ⟨_, Lib.hid rfl⟩
  obtain ⟨e, HEE⟩ : ∃ e, Hid (e = s.ex) := ⟨_, Lib.hid rfl⟩
  have hFe : F.ex = e := by rw [HFE.out, HEE.out]; rfl
  have hFg : F.Good := by rw [HFE.out]; exact fewS15_good s
  have hFl : F.on.length ≤ 6 ∧ F.off.length ≤ 6 := by rw [HFE.out]; exact fewS15_len s
  have hFF : fewS15 F = F := by rw [HFE.out]; exact fewS15_few s
  have hLl : L.length ≤ 6 := by rw [HLE.out, List.length_take]; omega
  rw [← HFE.out, ← HEE.out] at HF1
  rw [← HLE.out] at HA1
  rw [← HEE.out] at H0 ⊢
  have hL6 : L.take 6 = L := List.take_of_length_le hLl
  obtain ⟨E, HXE⟩ : ∃ E, Hid (E = expS F L) := ⟨_, Lib.hid rfl⟩
  obtain ⟨T, HTE⟩ : ∃ T, Hid (T = turS F) := ⟨_, Lib.hid rfl⟩
  have hEe : E.ex = e := by rw [HXE.out]; exact hFe
  have hTe : T.ex = false := by rw [HTE.out]; rfl
  have hEg : E.Good := by rw [HXE.out]; exact expS_good hFg L
  have hTg : T.Good := by rw [HTE.out]; exact turS_good hFg
  have hEl : E.on.length ≤ 12 ∧ E.off.length ≤ 12 := by rw [HXE.out]; exact expS_len L hFl.1 hFl.2
  have hTl : T.on.length ≤ 6 ∧ T.off.length ≤ 6 := by rw [HTE.out]; exact ⟨hFl.1, Nat.zero_le _⟩
  have HF2 : Hid (∀ W a1 y1, StT W a1 y1 F → Calls Try.prog 7 #[.agg (stC e a1 y1).toArray] W fun x w' => ∃ a' y', x = .returned (.agg (stC e a' y').toArray) ∧ Below W.heap.size W w' ∧ StT w' a' y' F) := Lib.hid fun W a1 y1 hs => by
    have := lfew15_any F a1 y1 W hs.sta
    rwa [hFe, hFF] at this
  have HA2 : Hid (∀ W v, AdsT W v L → Calls Try.prog 8 #[v, .int .i64 6] W fun x w' => ∃ p n c, x = .returned (.slice p n c) ∧ Below W.heap.size W w' ∧ AdsT w' (.slice p n c) L) := Lib.hid fun W v hv => (laddrs_own v L 6 (by omega) W hv.1).mono fun x w' ⟨v2, hx, hb2, ho⟩ => by
    obtain ⟨p, n, c, rfl⟩ := ho.shape
    rw [hL6] at ho
    exact ⟨p, n, c, hx, hb2, ho.ads hv.1.ok⟩
  have HEX : Hid (∀ W a1 y1 v, StT W a1 y1 F → AdsT W v L → Calls Try.prog 15 #[.agg (stC e a1 y1).toArray, v] W fun x w' => ∃ a' y', x = .returned (.agg (stC e a' y').toArray) ∧ Below W.heap.size W w' ∧ StT w' a' y' E) := Lib.hid fun W a1 y1 v hs hv => by
    have := fexpire_any F hFg a1 y1 v L W hs hv (by omega) (by omega) (by omega)
    rwa [hFe, ← HXE.out] at this
  have HTU : Hid (∀ W a1 y1, StT W a1 y1 F → Calls Try.prog 16 #[.agg (stC e a1 y1).toArray] W fun x w' => ∃ a' y', x = .returned (.agg (stC false a' y').toArray) ∧ Below W.heap.size W w' ∧ StT w' a' y' T) := Lib.hid fun W a1 y1 hs => by
    have := fturn_any F a1 y1 W hs (by omega)
    rw [hFe] at this
    rw [HTE.out]
    exact this
  have HRX : Hid (∀ W a1 y1 v, StT W a1 y1 F → AdsT W v L → Calls Try.prog 18 #[.agg (stC e a1 y1).toArray, v] W fun x w' => ∃ a' y', x = .returned (.agg (stC e a' y').toArray) ∧ Below W.heap.size W w' ∧ StA w' a' y' E) := Lib.hid fun W a1 y1 v hs hv => by
    have := rexpire15_any F a1 y1 v L W hs.sta hv.1 (by omega) (by omega)
    rwa [hFe, ← HXE.out] at this
  have HRT : Hid (∀ W a1 y1, StT W a1 y1 F → Calls Try.prog 19 #[.agg (stC e a1 y1).toArray] W fun x w' => ∃ a' y', x = .returned (.agg (stC false a' y').toArray) ∧ Below W.heap.size W w' ∧ StA w' a' y' T) := Lib.hid fun W a1 y1 hs => by
    have := rturn15_any F a1 y1 W hs.sta
    rw [hFe] at this
    refine this.mono fun x w' ⟨hx, hb⟩ => ⟨_, _, hx, hb, ?_⟩
    rw [HTE.out]
    exact ⟨(hs.below hb).sta.on, (adsT_nil _).1, hs.ca, nilcap⟩
  have HSE : Hid (∀ W u v u' v', StA W u v E → StA W u' v' E → Calls Try.prog 17 #[.agg (stC e u v).toArray, .agg (stC e u' v').toArray] W fun x w' => x = .returned (.bool true) ∧ Below W.heap.size W w') := Lib.hid fun W u v u' v' h1 h2 => by
    have := rsame15_any E E u v u' v' W h1 h2
    rwa [hEe, decide_eq_true rfl] at this
  have HST : Hid (∀ W u v u' v', StA W u v T → StA W u' v' T → Calls Try.prog 17 #[.agg (stC false u v).toArray, .agg (stC false u' v').toArray] W fun x w' => x = .returned (.bool true) ∧ Below W.heap.size W w') := Lib.hid fun W u v u' v' h1 h2 => by
    have := rsame15_any T T u v u' v' W h1 h2
    rwa [hTe, decide_eq_true rfl] at this
  have HGE : Hid (∀ W u v, StT W u v E → Calls Try.prog 13 #[.agg (stC e u v).toArray] W fun x w' => x = .returned (.bool true) ∧ Below W.heap.size W w') := Lib.hid fun W u v hs => by
    have := fgood_any E u v W hs.sta (by omega) (by omega)
    rwa [gdS_iff.2 hEg, hEe] at this
  have HGT : Hid (∀ W u v, StT W u v T → Calls Try.prog 13 #[.agg (stC false u v).toArray] W fun x w' => x = .returned (.bool true) ∧ Below W.heap.size W w') := Lib.hid fun W u v hs => by
    have := fgood_any T u v W hs.sta (by omega) (by omega)
    rwa [gdS_iff.2 hTg, hTe] at this
  obtain ⟨lv, hlv⟩ : ∃ lv, lv = letS F c := ⟨_, rfl⟩
  obtain ⟨gv, hgv⟩ : ∃ gv, gv = gonS F := ⟨_, rfl⟩
  have hgl : gv = true → lv = false := fun q => by rw [hlv]; rw [hgv] at q; exact gon_let q
  have HLT : Hid (∀ W u v, StT W u v F → Calls Try.prog 20 #[.agg (stC e u v).toArray, .agg (adC c).toArray] W fun x w' => x = .returned (.bool lv) ∧ Below W.heap.size W w') := Lib.hid fun W u v hs => by
    have := flets_any F hFg c u v W hs.sta hc (by omega) (by omega)
    rw [hFe] at this
    rw [hlv]; unfold letS; rw [hFe]; exact this
  have HLR : Hid (∀ W u v, StT W u v F → Calls Try.prog 21 #[.agg (stC e u v).toArray, .agg (adC c).toArray] W fun x w' => x = .returned (.bool lv) ∧ Below W.heap.size W w') := Lib.hid fun W u v hs => by
    have := rlets15_any F c u v W hs.sta hc
    rw [hFe] at this
    rw [hlv]; unfold letS; rw [hFe]; exact this
  have HGO : Hid (∀ W u v, StT W u v F → Calls Try.prog 22 #[.agg (stC e u v).toArray] W fun x w' => x = .returned (.bool gv) ∧ Below W.heap.size W w') := Lib.hid fun W u v hs => by
    have := fgone_any F u v W hs.sta
    rw [hFe] at this
    rw [hgv]; unfold gonS; rw [hFe]; exact this
  have HGR : Hid (∀ W u v, StT W u v F → Calls Try.prog 23 #[.agg (stC e u v).toArray] W fun x w' => x = .returned (.bool gv) ∧ Below W.heap.size W w') := Lib.hid fun W u v hs => by
    have := rgone15_any F u v W hs.sta
    rw [hFe] at this
    rw [hgv]; unfold gonS; rw [hFe]; exact this
  have HLV := Lib.hid (fun W => lives15_any W)
  have HAD := Lib.hid (fun W (q : ObjAt W (w.heap.size + 1) (adC c).toArray 37) => show row? W (w.heap.size + 1) 0 17 = some (adC c) from obj_re q (A := []) (M := adC c) (C := []) (by simp) rfl (adC_length hc))
  clear h hl hFe hFg hFl hFF hLl hL6 HFE HLE HEE HXE HTE hEe hTe hEg hTg hEl hTl hlv hgv hc
  generalize adC c = C at *
  go_enter Try.func4, Try.ntmps4
  go_upto_region 1 with (fail)
  generalize (w.alloc _).alloc _ = W at H0 ⊢
  have r0 := st_row H0.out.one
  go_upto_region 2 with (first
    | (go_at_call 7; (with_reducible refine (HF1.out _ H0.out.blw).mono ?_); rintro x w1 ⟨a1, y1, rfl, hb, hs⟩; have H1 := Lib.hid (H0.out.below hb); have HS1 := Lib.hid hs; clear hb hs r0)
    | (go_at_call 8; (with_reducible refine (HA1.out _ H1.out.blw).mono ?_); rintro x w2 ⟨lp, ln, lc, rfl, hb, hv⟩; have H2 := Lib.hid (H1.out.below hb); have HS2 := Lib.hid (HS1.out.below hb); have HV := Lib.hid hv; have hf := obj_free_at H2.out.one 0 3 (Nat.le_refl _); have hk : fok (stC e a1 y1).toArray 3 = true := fok_of rfl (HS2.out.sta.one e); clear hb hv))
  have HT : Hid (LtB w e a1 y1 F (.slice lp ln lc) L (C.toArray) (aggW w2 w.heap.size (stC e a1 y1))) := Lib.hid ⟨aggW_below H2.out.blw (Nat.le_refl _) _, aggW_obj (L := stC e a y) H2.out.one rfl (HS2.out.sta.one e), aggW_other H2.out.two _ (Nat.succ_ne_self _), HS2.out.off' H2.out.one (by decide) (aggW_grown _ _ _), AdsT.off HV.out H2.out.one (by decide) (aggW_grown _ _ _)⟩
  generalize aggW _ w.heap.size _ = W3 at HT ⊢
  clear H0 H1 H2 HS1 HS2 HV hf hk HF1 HA1
  have HKS := Lib.hid (fun W p7 p8 (q : LtS w e a1 y1 F (.slice lp ln lc) L (C.toArray) p7 p8 W) => st_row q.b.one)
  go_cut [7, 8] from 9 (fun p7 p8 wr => LQ w e a1 y1 F (.slice lp ln lc) L (C.toArray) E T p7 p8 wr)
  case first =>
    refine wp_region_held_drew (S := fun W => row? W w.heap.size 0 3 = some (stC e a1 y1)) (by kernel_rfl) (HKS.out _ _ _ (LtS.below (W' := W3.drew) (LtS.start HT.out) (bdrewN (Below.refl _ _) 1))) (fun hHeld => ?_)
    have HZ := Lib.hid (LtS.below (W' := W3.drew) (LtS.start HT.out) (bdrewN (Below.refl _ _) 1))
    clear HT
    generalize World.drew W3 = Wc at HZ hHeld ⊢
    refine wpAnyH_take (i := 0) (oi := { dst := some 13, op := _, type := _, pos := _, after := _, guard := _ }) (v := ?v0) rfl (by kernel_rfl) (by kernel_rfl) (by kernel_rfl) (fun _ _ _ h => h) (Or.inl ⟨by rfl, ?y0⟩) (by assumption) ?r0
    case y0 => (intro ws hSw; go_simp; try with_reducible rfl)
    try simp only [Act.put, List.setIfInBounds_toArray, List.set_cons_zero, List.set_cons_succ]
    refine wpAnyH_take (i := 2) (oi := { dst := some 15, op := _, type := _, pos := _, after := _, guard := _ }) (v := ?v1) rfl (by kernel_rfl) (by kernel_rfl) (by kernel_rfl) (fun _ _ _ h => h) (Or.inl ⟨by rfl, ?y1⟩) (by assumption) ?r1
    case y1 => (intro ws hSw; go_simp; try with_reducible rfl)
    try simp only [Act.put, List.setIfInBounds_toArray, List.set_cons_zero, List.set_cons_succ]
    refine wpAnyH_take (i := 5) (oi := { dst := some 18, op := _, type := _, pos := _, after := _, guard := _ }) (v := ?v2) rfl (by kernel_rfl) (by kernel_rfl) (by kernel_rfl) (fun _ _ _ h => h) (Or.inl ⟨by rfl, ?y2⟩) (by assumption) ?r2
    case y2 => (intro ws hSw; go_simp; try with_reducible rfl)
    try simp only [Act.put, List.setIfInBounds_toArray, List.set_cons_zero, List.set_cons_succ]
    refine wpAnyH_ready (rs := [1, 8, 9]) (by kernel_rfl) (by simp) (AllReadyH.cons (o := { dst := some 14, op := _, type := _, pos := _, after := _, guard := _ }) rfl (fun K hK => (fun (mk1 : True) => ?_) trivial) (AllReadyH.cons (o := { dst := some 7, op := _, type := _, pos := _, after := _, guard := _ }) rfl (fun K hK => (fun (mk8 : True) => ?_) trivial) (AllReadyH.cons (o := { dst := some 8, op := _, type := _, pos := _, after := _, guard := _ }) rfl (fun K hK => (fun (mk9 : True) => ?_) trivial) AllReadyH.nil)))
    all_goals first
      | (clear mk1
         go_simp
         (go_at_call 7; (with_reducible refine (HF2.out _ _ _ HZ.out.b.st).mono ?_); rintro x wf ⟨a2, y2, rfl, hb, hs⟩; have HS := Lib.hid hs; replace HZ := Lib.hid (HZ.out.below hb); clear hb hs)
         try go_wp2_with fail
         refine hK.out _ _ (HKS.out _ _ _ HZ.out) (fun hHeld => ?_)
         clear hK K
         try simp only [Act.put, List.setIfInBounds_toArray, List.set_cons_zero, List.set_cons_succ]
         rename World => Wc
         have s1 : True := trivial)
      | (clear mk8
         go_simp
         refine hK.out _ _ (HKS.out _ _ _ HZ.out.a7) (fun hHeld => ?_)
         clear hK K
         try simp only [Act.put, List.setIfInBounds_toArray, List.set_cons_zero, List.set_cons_succ]
         replace HZ := Lib.hid HZ.out.a7
         generalize World.alloc Wc _ = Wn at HZ hHeld ⊢
         generalize Wc.heap.size = m7 at HZ ⊢
         rename World => Wc
         have s0_8 : True := trivial)
      | (clear mk9
         go_simp
         refine hK.out _ _ (HKS.out _ _ _ HZ.out.a8) (fun hHeld => ?_)
         clear hK K
         try simp only [Act.put, List.setIfInBounds_toArray, List.set_cons_zero, List.set_cons_succ]
         replace HZ := Lib.hid HZ.out.a8
         generalize World.alloc Wc _ = Wn at HZ hHeld ⊢
         generalize Wc.heap.size = m8 at HZ ⊢
         rename World => Wc
         have s0_9 : True := trivial)
    all_goals first
      | (clear s0_8
         refine wpAnyH_ready (rs := [1, 9]) (by kernel_rfl) (by simp) (AllReadyH.cons (o := { dst := some 14, op := _, type := _, pos := _, after := _, guard := _ }) rfl (fun K hK => (fun (mk1 : True) => ?_) trivial) (AllReadyH.cons (o := { dst := some 8, op := _, type := _, pos := _, after := _, guard := _ }) rfl (fun K hK => (fun (mk9 : True) => ?_) trivial) AllReadyH.nil))
         all_goals first
           | (clear mk1
              go_simp
              (go_at_call 7; (with_reducible refine (HF2.out _ _ _ HZ.out.b.st).mono ?_); rintro x wf ⟨a2, y2, rfl, hb, hs⟩; have HS := Lib.hid hs; replace HZ := Lib.hid (HZ.out.below hb); clear hb hs)
              try go_wp2_with fail
              refine hK.out _ _ (HKS.out _ _ _ HZ.out) (fun hHeld => ?_)
              clear hK K
              try simp only [Act.put, List.setIfInBounds_toArray, List.set_cons_zero, List.set_cons_succ]
              rename World => Wc
              have s1_8 : True := trivial)
           | (clear mk9
              go_simp
              refine hK.out _ _ (HKS.out _ _ _ HZ.out.a8) (fun hHeld => ?_)
              clear hK K
              try simp only [Act.put, List.setIfInBounds_toArray, List.set_cons_zero, List.set_cons_succ]
              replace HZ := Lib.hid HZ.out.a8
              generalize World.alloc Wc _ = Wn at HZ hHeld ⊢
              generalize Wc.heap.size = m8 at HZ ⊢
              rename World => Wc
              have s0_8_9 : True := trivial))
      | (clear s0_9
         refine wpAnyH_ready (rs := [1, 8]) (by kernel_rfl) (by simp) (AllReadyH.cons (o := { dst := some 14, op := _, type := _, pos := _, after := _, guard := _ }) rfl (fun K hK => (fun (mk1 : True) => ?_) trivial) (AllReadyH.cons (o := { dst := some 7, op := _, type := _, pos := _, after := _, guard := _ }) rfl (fun K hK => (fun (mk8 : True) => ?_) trivial) AllReadyH.nil))
         all_goals first
           | (clear mk1
              go_simp
              (go_at_call 7; (with_reducible refine (HF2.out _ _ _ HZ.out.b.st).mono ?_); rintro x wf ⟨a2, y2, rfl, hb, hs⟩; have HS := Lib.hid hs; replace HZ := Lib.hid (HZ.out.below hb); clear hb hs)
              try go_wp2_with fail
              refine hK.out _ _ (HKS.out _ _ _ HZ.out) (fun hHeld => ?_)
              clear hK K
              try simp only [Act.put, List.setIfInBounds_toArray, List.set_cons_zero, List.set_cons_succ]
              rename World => Wc
              have s1_9 : True := trivial)
           | (clear mk8
              go_simp
              refine hK.out _ _ (HKS.out _ _ _ HZ.out.a7) (fun hHeld => ?_)
              clear hK K
              try simp only [Act.put, List.setIfInBounds_toArray, List.set_cons_zero, List.set_cons_succ]
              replace HZ := Lib.hid HZ.out.a7
              generalize World.alloc Wc _ = Wn at HZ hHeld ⊢
              generalize Wc.heap.size = m7 at HZ ⊢
              rename World => Wc
              have s0_8_9 : True := trivial))
      | (clear s1
         refine wpAnyH_ready (rs := [3, 8, 9]) (by kernel_rfl) (by simp) (AllReadyH.cons (o := { dst := some 16, op := _, type := _, pos := _, after := _, guard := _ }) rfl (fun K hK => (fun (mk3 : True) => ?_) trivial) (AllReadyH.cons (o := { dst := some 7, op := _, type := _, pos := _, after := _, guard := _ }) rfl (fun K hK => (fun (mk8 : True) => ?_) trivial) (AllReadyH.cons (o := { dst := some 8, op := _, type := _, pos := _, after := _, guard := _ }) rfl (fun K hK => (fun (mk9 : True) => ?_) trivial) AllReadyH.nil)))
         all_goals first
           | (clear mk3
              go_simp
              (go_at_call 8; (with_reducible refine (HA2.out _ _ HZ.out.b.vl).mono ?_); rintro x wf ⟨mp, mn, mc, rfl, hb, hs⟩; have HN := Lib.hid hs; replace HZ := Lib.hid (HZ.out.below hb); replace HS := Lib.hid (HS.out.below hb); clear hb hs)
              try go_wp2_with fail
              refine hK.out _ _ (HKS.out _ _ _ HZ.out) (fun hHeld => ?_)
              clear hK K
              try simp only [Act.put, List.setIfInBounds_toArray, List.set_cons_zero, List.set_cons_succ]
              rename World => Wc
              have s2 : True := trivial)
           | (clear mk8
              go_simp
              refine hK.out _ _ (HKS.out _ _ _ HZ.out.a7) (fun hHeld => ?_)
              clear hK K
              try simp only [Act.put, List.setIfInBounds_toArray, List.set_cons_zero, List.set_cons_succ]
              replace HZ := Lib.hid HZ.out.a7
              replace HS := Lib.hid (HS.out.below (bbox Wc (.cells #[.bool false, .slice none 0 0, .slice none 0 0] 24)))
              generalize World.alloc Wc _ = Wn at HZ HS hHeld ⊢
              generalize Wc.heap.size = m7 at HZ ⊢
              rename World => Wc
              have s1_8 : True := trivial)
           | (clear mk9
              go_simp
              refine hK.out _ _ (HKS.out _ _ _ HZ.out.a8) (fun hHeld => ?_)
              clear hK K
              try simp only [Act.put, List.setIfInBounds_toArray, List.set_cons_zero, List.set_cons_succ]
              replace HZ := Lib.hid HZ.out.a8
              replace HS := Lib.hid (HS.out.below (bbox Wc (.cells #[.bool false, .slice none 0 0, .slice none 0 0] 24)))
              generalize World.alloc Wc _ = Wn at HZ HS hHeld ⊢
              generalize Wc.heap.size = m8 at HZ ⊢
              rename World => Wc
              have s1_9 : True := trivial))
    all_goals first
      | (clear s0_8_9
         refine wpAnyH_ready (rs := [1]) (by kernel_rfl) (by simp) (AllReadyH.cons (o := { dst := some 14, op := _, type := _, pos := _, after := _, guard := _ }) rfl (fun K hK => (fun (mk1 : True) => ?_) trivial) AllReadyH.nil)
         all_goals first
           | (clear mk1
              go_simp
              (go_at_call 7; (with_reducible refine (HF2.out _ _ _ HZ.out.b.st).mono ?_); rintro x wf ⟨a2, y2, rfl, hb, hs⟩; have HS := Lib.hid hs; replace HZ := Lib.hid (HZ.out.below hb); clear hb hs)
              try go_wp2_with fail
              refine hK.out _ _ (HKS.out _ _ _ HZ.out) (fun hHeld => ?_)
              clear hK K
              try simp only [Act.put, List.setIfInBounds_toArray, List.set_cons_zero, List.set_cons_succ]
              rename World => Wc
              have s1_8_9 : True := trivial))
      | (clear s1_8
         refine wpAnyH_ready (rs := [3, 9]) (by kernel_rfl) (by simp) (AllReadyH.cons (o := { dst := some 16, op := _, type := _, pos := _, after := _, guard := _ }) rfl (fun K hK => (fun (mk3 : True) => ?_) trivial) (AllReadyH.cons (o := { dst := some 8, op := _, type := _, pos := _, after := _, guard := _ }) rfl (fun K hK => (fun (mk9 : True) => ?_) trivial) AllReadyH.nil))
         all_goals first
           | (clear mk3
              go_simp
              (go_at_call 8; (with_reducible refine (HA2.out _ _ HZ.out.b.vl).mono ?_); rintro x wf ⟨mp, mn, mc, rfl, hb, hs⟩; have HN := Lib.hid hs; replace HZ := Lib.hid (HZ.out.below hb); replace HS := Lib.hid (HS.out.below hb); clear hb hs)
              try go_wp2_with fail
              refine hK.out _ _ (HKS.out _ _ _ HZ.out) (fun hHeld => ?_)
              clear hK K
              try simp only [Act.put, List.setIfInBounds_toArray, List.set_cons_zero, List.set_cons_succ]
              rename World => Wc
              have s2_8 : True := trivial)
           | (clear mk9
              go_simp
              refine hK.out _ _ (HKS.out _ _ _ HZ.out.a8) (fun hHeld => ?_)
              clear hK K
              try simp only [Act.put, List.setIfInBounds_toArray, List.set_cons_zero, List.set_cons_succ]
              replace HZ := Lib.hid HZ.out.a8
              replace HS := Lib.hid (HS.out.below (bbox Wc (.cells #[.bool false, .slice none 0 0, .slice none 0 0] 24)))
              generalize World.alloc Wc _ = Wn at HZ HS hHeld ⊢
              generalize Wc.heap.size = m8 at HZ ⊢
              rename World => Wc
              have s1_8_9 : True := trivial))
      | (clear s1_9
         refine wpAnyH_ready (rs := [3, 8]) (by kernel_rfl) (by simp) (AllReadyH.cons (o := { dst := some 16, op := _, type := _, pos := _, after := _, guard := _ }) rfl (fun K hK => (fun (mk3 : True) => ?_) trivial) (AllReadyH.cons (o := { dst := some 7, op := _, type := _, pos := _, after := _, guard := _ }) rfl (fun K hK => (fun (mk8 : True) => ?_) trivial) AllReadyH.nil))
         all_goals first
           | (clear mk3
              go_simp
              (go_at_call 8; (with_reducible refine (HA2.out _ _ HZ.out.b.vl).mono ?_); rintro x wf ⟨mp, mn, mc, rfl, hb, hs⟩; have HN := Lib.hid hs; replace HZ := Lib.hid (HZ.out.below hb); replace HS := Lib.hid (HS.out.below hb); clear hb hs)
              try go_wp2_with fail
              refine hK.out _ _ (HKS.out _ _ _ HZ.out) (fun hHeld => ?_)
              clear hK K
              try simp only [Act.put, List.setIfInBounds_toArray, List.set_cons_zero, List.set_cons_succ]
              rename World => Wc
              have s2_9 : True := trivial)
           | (clear mk8
              go_simp
              refine hK.out _ _ (HKS.out _ _ _ HZ.out.a7) (fun hHeld => ?_)
              clear hK K
              try simp only [Act.put, List.setIfInBounds_toArray, List.set_cons_zero, List.set_cons_succ]
              replace HZ := Lib.hid HZ.out.a7
              replace HS := Lib.hid (HS.out.below (bbox Wc (.cells #[.bool false, .slice none 0 0, .slice none 0 0] 24)))
              generalize World.alloc Wc _ = Wn at HZ HS hHeld ⊢
              generalize Wc.heap.size = m7 at HZ ⊢
              rename World => Wc
              have s1_8_9 : True := trivial))
      | (clear s2
         refine wpAnyH_ready (rs := [4, 8, 9]) (by kernel_rfl) (by simp) (AllReadyH.cons (o := { dst := some 17, op := _, type := _, pos := _, after := _, guard := _ }) rfl (fun K hK => (fun (mk4 : True) => ?_) trivial) (AllReadyH.cons (o := { dst := some 7, op := _, type := _, pos := _, after := _, guard := _ }) rfl (fun K hK => (fun (mk8 : True) => ?_) trivial) (AllReadyH.cons (o := { dst := some 8, op := _, type := _, pos := _, after := _, guard := _ }) rfl (fun K hK => (fun (mk9 : True) => ?_) trivial) AllReadyH.nil)))
         all_goals first
           | (clear mk4
              go_simp
              (go_at_call 15; (with_reducible refine (HEX.out _ _ _ _ HS.out HN.out).mono ?_); rintro x wf ⟨a3, y3, rfl, hb, hs⟩; have HE := Lib.hid hs; replace HZ := Lib.hid (HZ.out.below hb); clear hb hs; clear HS HN)
              try go_wp2_with fail
              refine hK.out _ _ (HKS.out _ _ _ HZ.out) (fun hHeld => ?_)
              clear hK K
              try simp only [Act.put, List.setIfInBounds_toArray, List.set_cons_zero, List.set_cons_succ]
              rename World => Wc
              have s3 : True := trivial)
           | (clear mk8
              go_simp
              refine hK.out _ _ (HKS.out _ _ _ HZ.out.a7) (fun hHeld => ?_)
              clear hK K
              try simp only [Act.put, List.setIfInBounds_toArray, List.set_cons_zero, List.set_cons_succ]
              replace HZ := Lib.hid HZ.out.a7
              replace HS := Lib.hid (HS.out.below (bbox Wc (.cells #[.bool false, .slice none 0 0, .slice none 0 0] 24)))
              replace HN := Lib.hid (HN.out.below (bbox Wc (.cells #[.bool false, .slice none 0 0, .slice none 0 0] 24)))
              generalize World.alloc Wc _ = Wn at HZ HS HN hHeld ⊢
              generalize Wc.heap.size = m7 at HZ ⊢
              rename World => Wc
              have s2_8 : True := trivial)
           | (clear mk9
              go_simp
              refine hK.out _ _ (HKS.out _ _ _ HZ.out.a8) (fun hHeld => ?_)
              clear hK K
              try simp only [Act.put, List.setIfInBounds_toArray, List.set_cons_zero, List.set_cons_succ]
              replace HZ := Lib.hid HZ.out.a8
              replace HS := Lib.hid (HS.out.below (bbox Wc (.cells #[.bool false, .slice none 0 0, .slice none 0 0] 24)))
              replace HN := Lib.hid (HN.out.below (bbox Wc (.cells #[.bool false, .slice none 0 0, .slice none 0 0] 24)))
              generalize World.alloc Wc _ = Wn at HZ HS HN hHeld ⊢
              generalize Wc.heap.size = m8 at HZ ⊢
              rename World => Wc
              have s2_9 : True := trivial))
    all_goals first
      | (clear s1_8_9
         refine wpAnyH_ready (rs := [3]) (by kernel_rfl) (by simp) (AllReadyH.cons (o := { dst := some 16, op := _, type := _, pos := _, after := _, guard := _ }) rfl (fun K hK => (fun (mk3 : True) => ?_) trivial) AllReadyH.nil)
         all_goals first
           | (clear mk3
              go_simp
              (go_at_call 8; (with_reducible refine (HA2.out _ _ HZ.out.b.vl).mono ?_); rintro x wf ⟨mp, mn, mc, rfl, hb, hs⟩; have HN := Lib.hid hs; replace HZ := Lib.hid (HZ.out.below hb); replace HS := Lib.hid (HS.out.below hb); clear hb hs)
              try go_wp2_with fail
              refine hK.out _ _ (HKS.out _ _ _ HZ.out) (fun hHeld => ?_)
              clear hK K
              try simp only [Act.put, List.setIfInBounds_toArray, List.set_cons_zero, List.set_cons_succ]
              rename World => Wc
              have s2_8_9 : True := trivial))
      | (clear s2_8
         refine wpAnyH_ready (rs := [4, 9]) (by kernel_rfl) (by simp) (AllReadyH.cons (o := { dst := some 17, op := _, type := _, pos := _, after := _, guard := _ }) rfl (fun K hK => (fun (mk4 : True) => ?_) trivial) (AllReadyH.cons (o := { dst := some 8, op := _, type := _, pos := _, after := _, guard := _ }) rfl (fun K hK => (fun (mk9 : True) => ?_) trivial) AllReadyH.nil))
         all_goals first
           | (clear mk4
              go_simp
              (go_at_call 15; (with_reducible refine (HEX.out _ _ _ _ HS.out HN.out).mono ?_); rintro x wf ⟨a3, y3, rfl, hb, hs⟩; have HE := Lib.hid hs; replace HZ := Lib.hid (HZ.out.below hb); clear hb hs; clear HS HN)
              try go_wp2_with fail
              refine hK.out _ _ (HKS.out _ _ _ HZ.out) (fun hHeld => ?_)
              clear hK K
              try simp only [Act.put, List.setIfInBounds_toArray, List.set_cons_zero, List.set_cons_succ]
              rename World => Wc
              have s3_8 : True := trivial)
           | (clear mk9
              go_simp
              refine hK.out _ _ (HKS.out _ _ _ HZ.out.a8) (fun hHeld => ?_)
              clear hK K
              try simp only [Act.put, List.setIfInBounds_toArray, List.set_cons_zero, List.set_cons_succ]
              replace HZ := Lib.hid HZ.out.a8
              replace HS := Lib.hid (HS.out.below (bbox Wc (.cells #[.bool false, .slice none 0 0, .slice none 0 0] 24)))
              replace HN := Lib.hid (HN.out.below (bbox Wc (.cells #[.bool false, .slice none 0 0, .slice none 0 0] 24)))
              generalize World.alloc Wc _ = Wn at HZ HS HN hHeld ⊢
              generalize Wc.heap.size = m8 at HZ ⊢
              rename World => Wc
              have s2_8_9 : True := trivial))
      | (clear s2_9
         refine wpAnyH_ready (rs := [4, 8]) (by kernel_rfl) (by simp) (AllReadyH.cons (o := { dst := some 17, op := _, type := _, pos := _, after := _, guard := _ }) rfl (fun K hK => (fun (mk4 : True) => ?_) trivial) (AllReadyH.cons (o := { dst := some 7, op := _, type := _, pos := _, after := _, guard := _ }) rfl (fun K hK => (fun (mk8 : True) => ?_) trivial) AllReadyH.nil))
         all_goals first
           | (clear mk4
              go_simp
              (go_at_call 15; (with_reducible refine (HEX.out _ _ _ _ HS.out HN.out).mono ?_); rintro x wf ⟨a3, y3, rfl, hb, hs⟩; have HE := Lib.hid hs; replace HZ := Lib.hid (HZ.out.below hb); clear hb hs; clear HS HN)
              try go_wp2_with fail
              refine hK.out _ _ (HKS.out _ _ _ HZ.out) (fun hHeld => ?_)
              clear hK K
              try simp only [Act.put, List.setIfInBounds_toArray, List.set_cons_zero, List.set_cons_succ]
              rename World => Wc
              have s3_9 : True := trivial)
           | (clear mk8
              go_simp
              refine hK.out _ _ (HKS.out _ _ _ HZ.out.a7) (fun hHeld => ?_)
              clear hK K
              try simp only [Act.put, List.setIfInBounds_toArray, List.set_cons_zero, List.set_cons_succ]
              replace HZ := Lib.hid HZ.out.a7
              replace HS := Lib.hid (HS.out.below (bbox Wc (.cells #[.bool false, .slice none 0 0, .slice none 0 0] 24)))
              replace HN := Lib.hid (HN.out.below (bbox Wc (.cells #[.bool false, .slice none 0 0, .slice none 0 0] 24)))
              generalize World.alloc Wc _ = Wn at HZ HS HN hHeld ⊢
              generalize Wc.heap.size = m7 at HZ ⊢
              rename World => Wc
              have s2_8_9 : True := trivial))
      | (clear s3
         refine wpAnyH_ready (rs := [6, 8, 9]) (by kernel_rfl) (by simp) (AllReadyH.cons (o := { dst := some 19, op := _, type := _, pos := _, after := _, guard := _ }) rfl (fun K hK => (fun (mk6 : True) => ?_) trivial) (AllReadyH.cons (o := { dst := some 7, op := _, type := _, pos := _, after := _, guard := _ }) rfl (fun K hK => (fun (mk8 : True) => ?_) trivial) (AllReadyH.cons (o := { dst := some 8, op := _, type := _, pos := _, after := _, guard := _ }) rfl (fun K hK => (fun (mk9 : True) => ?_) trivial) AllReadyH.nil)))
         all_goals first
           | (clear mk6
              go_simp
              (go_at_call 7; (with_reducible refine (HF2.out _ _ _ HZ.out.b.st).mono ?_); rintro x wf ⟨a4, y4, rfl, hb, hs⟩; have HS := Lib.hid hs; replace HZ := Lib.hid (HZ.out.below hb); replace HE := Lib.hid (HE.out.below hb); clear hb hs)
              try go_wp2_with fail
              refine hK.out _ _ (HKS.out _ _ _ HZ.out) (fun hHeld => ?_)
              clear hK K
              try simp only [Act.put, List.setIfInBounds_toArray, List.set_cons_zero, List.set_cons_succ]
              rename World => Wc
              have s4 : True := trivial)
           | (clear mk8
              go_simp
              refine hK.out _ _ (HKS.out _ _ _ HZ.out.a7) (fun hHeld => ?_)
              clear hK K
              try simp only [Act.put, List.setIfInBounds_toArray, List.set_cons_zero, List.set_cons_succ]
              replace HZ := Lib.hid HZ.out.a7
              replace HE := Lib.hid (HE.out.below (bbox Wc (.cells #[.bool false, .slice none 0 0, .slice none 0 0] 24)))
              generalize World.alloc Wc _ = Wn at HZ HE hHeld ⊢
              generalize Wc.heap.size = m7 at HZ ⊢
              rename World => Wc
              have s3_8 : True := trivial)
           | (clear mk9
              go_simp
              refine hK.out _ _ (HKS.out _ _ _ HZ.out.a8) (fun hHeld => ?_)
              clear hK K
              try simp only [Act.put, List.setIfInBounds_toArray, List.set_cons_zero, List.set_cons_succ]
              replace HZ := Lib.hid HZ.out.a8
              replace HE := Lib.hid (HE.out.below (bbox Wc (.cells #[.bool false, .slice none 0 0, .slice none 0 0] 24)))
              generalize World.alloc Wc _ = Wn at HZ HE hHeld ⊢
              generalize Wc.heap.size = m8 at HZ ⊢
              rename World => Wc
              have s3_9 : True := trivial))
    all_goals first
      | (clear s2_8_9
         refine wpAnyH_ready (rs := [4]) (by kernel_rfl) (by simp) (AllReadyH.cons (o := { dst := some 17, op := _, type := _, pos := _, after := _, guard := _ }) rfl (fun K hK => (fun (mk4 : True) => ?_) trivial) AllReadyH.nil)
         all_goals first
           | (clear mk4
              go_simp
              (go_at_call 15; (with_reducible refine (HEX.out _ _ _ _ HS.out HN.out).mono ?_); rintro x wf ⟨a3, y3, rfl, hb, hs⟩; have HE := Lib.hid hs; replace HZ := Lib.hid (HZ.out.below hb); clear hb hs; clear HS HN)
              try go_wp2_with fail
              refine hK.out _ _ (HKS.out _ _ _ HZ.out) (fun hHeld => ?_)
              clear hK K
              try simp only [Act.put, List.setIfInBounds_toArray, List.set_cons_zero, List.set_cons_succ]
              rename World => Wc
              have s3_8_9 : True := trivial))
      | (clear s3_8
         refine wpAnyH_ready (rs := [6, 9]) (by kernel_rfl) (by simp) (AllReadyH.cons (o := { dst := some 19, op := _, type := _, pos := _, after := _, guard := _ }) rfl (fun K hK => (fun (mk6 : True) => ?_) trivial) (AllReadyH.cons (o := { dst := some 8, op := _, type := _, pos := _, after := _, guard := _ }) rfl (fun K hK => (fun (mk9 : True) => ?_) trivial) AllReadyH.nil))
         all_goals first
           | (clear mk6
              go_simp
              (go_at_call 7; (with_reducible refine (HF2.out _ _ _ HZ.out.b.st).mono ?_); rintro x wf ⟨a4, y4, rfl, hb, hs⟩; have HS := Lib.hid hs; replace HZ := Lib.hid (HZ.out.below hb); replace HE := Lib.hid (HE.out.below hb); clear hb hs)
              try go_wp2_with fail
              refine hK.out _ _ (HKS.out _ _ _ HZ.out) (fun hHeld => ?_)
              clear hK K
              try simp only [Act.put, List.setIfInBounds_toArray, List.set_cons_zero, List.set_cons_succ]
              rename World => Wc
              have s4_8 : True := trivial)
           | (clear mk9
              go_simp
              refine hK.out _ _ (HKS.out _ _ _ HZ.out.a8) (fun hHeld => ?_)
              clear hK K
              try simp only [Act.put, List.setIfInBounds_toArray, List.set_cons_zero, List.set_cons_succ]
              replace HZ := Lib.hid HZ.out.a8
              replace HE := Lib.hid (HE.out.below (bbox Wc (.cells #[.bool false, .slice none 0 0, .slice none 0 0] 24)))
              generalize World.alloc Wc _ = Wn at HZ HE hHeld ⊢
              generalize Wc.heap.size = m8 at HZ ⊢
              rename World => Wc
              have s3_8_9 : True := trivial))
      | (clear s3_9
         refine wpAnyH_ready (rs := [6, 8]) (by kernel_rfl) (by simp) (AllReadyH.cons (o := { dst := some 19, op := _, type := _, pos := _, after := _, guard := _ }) rfl (fun K hK => (fun (mk6 : True) => ?_) trivial) (AllReadyH.cons (o := { dst := some 7, op := _, type := _, pos := _, after := _, guard := _ }) rfl (fun K hK => (fun (mk8 : True) => ?_) trivial) AllReadyH.nil))
         all_goals first
           | (clear mk6
              go_simp
              (go_at_call 7; (with_reducible refine (HF2.out _ _ _ HZ.out.b.st).mono ?_); rintro x wf ⟨a4, y4, rfl, hb, hs⟩; have HS := Lib.hid hs; replace HZ := Lib.hid (HZ.out.below hb); replace HE := Lib.hid (HE.out.below hb); clear hb hs)
              try go_wp2_with fail
              refine hK.out _ _ (HKS.out _ _ _ HZ.out) (fun hHeld => ?_)
              clear hK K
              try simp only [Act.put, List.setIfInBounds_toArray, List.set_cons_zero, List.set_cons_succ]
              rename World => Wc
              have s4_9 : True := trivial)
           | (clear mk8
              go_simp
              refine hK.out _ _ (HKS.out _ _ _ HZ.out.a7) (fun hHeld => ?_)
              clear hK K
              try simp only [Act.put, List.setIfInBounds_toArray, List.set_cons_zero, List.set_cons_succ]
              replace HZ := Lib.hid HZ.out.a7
              replace HE := Lib.hid (HE.out.below (bbox Wc (.cells #[.bool false, .slice none 0 0, .slice none 0 0] 24)))
              generalize World.alloc Wc _ = Wn at HZ HE hHeld ⊢
              generalize Wc.heap.size = m7 at HZ ⊢
              rename World => Wc
              have s3_8_9 : True := trivial))
      | (clear s4
         refine wpAnyH_ready (rs := [7, 8, 9]) (by kernel_rfl) (by simp) (AllReadyH.cons (o := { dst := some 20, op := _, type := _, pos := _, after := _, guard := _ }) rfl (fun K hK => (fun (mk7 : True) => ?_) trivial) (AllReadyH.cons (o := { dst := some 7, op := _, type := _, pos := _, after := _, guard := _ }) rfl (fun K hK => (fun (mk8 : True) => ?_) trivial) (AllReadyH.cons (o := { dst := some 8, op := _, type := _, pos := _, after := _, guard := _ }) rfl (fun K hK => (fun (mk9 : True) => ?_) trivial) AllReadyH.nil)))
         all_goals first
           | (clear mk7
              go_simp
              (go_at_call 16; (with_reducible refine (HTU.out _ _ _ HS.out).mono ?_); rintro x wf ⟨a5, y5, rfl, hb, hs⟩; have HU := Lib.hid hs; replace HZ := Lib.hid (HZ.out.below hb); replace HE := Lib.hid (HE.out.below hb); clear hb hs; clear HS)
              try go_wp2_with fail
              refine hK.out _ _ (HKS.out _ _ _ HZ.out) (fun hHeld => ?_)
              clear hK K
              try simp only [Act.put, List.setIfInBounds_toArray, List.set_cons_zero, List.set_cons_succ]
              rename World => Wc
              have s5 : True := trivial)
           | (clear mk8
              go_simp
              refine hK.out _ _ (HKS.out _ _ _ HZ.out.a7) (fun hHeld => ?_)
              clear hK K
              try simp only [Act.put, List.setIfInBounds_toArray, List.set_cons_zero, List.set_cons_succ]
              replace HZ := Lib.hid HZ.out.a7
              replace HE := Lib.hid (HE.out.below (bbox Wc (.cells #[.bool false, .slice none 0 0, .slice none 0 0] 24)))
              replace HS := Lib.hid (HS.out.below (bbox Wc (.cells #[.bool false, .slice none 0 0, .slice none 0 0] 24)))
              generalize World.alloc Wc _ = Wn at HZ HE HS hHeld ⊢
              generalize Wc.heap.size = m7 at HZ ⊢
              rename World => Wc
              have s4_8 : True := trivial)
           | (clear mk9
              go_simp
              refine hK.out _ _ (HKS.out _ _ _ HZ.out.a8) (fun hHeld => ?_)
              clear hK K
              try simp only [Act.put, List.setIfInBounds_toArray, List.set_cons_zero, List.set_cons_succ]
              replace HZ := Lib.hid HZ.out.a8
              replace HE := Lib.hid (HE.out.below (bbox Wc (.cells #[.bool false, .slice none 0 0, .slice none 0 0] 24)))
              replace HS := Lib.hid (HS.out.below (bbox Wc (.cells #[.bool false, .slice none 0 0, .slice none 0 0] 24)))
              generalize World.alloc Wc _ = Wn at HZ HE HS hHeld ⊢
              generalize Wc.heap.size = m8 at HZ ⊢
              rename World => Wc
              have s4_9 : True := trivial))
    all_goals first
      | (clear s3_8_9
         refine wpAnyH_ready (rs := [6]) (by kernel_rfl) (by simp) (AllReadyH.cons (o := { dst := some 19, op := _, type := _, pos := _, after := _, guard := _ }) rfl (fun K hK => (fun (mk6 : True) => ?_) trivial) AllReadyH.nil)
         all_goals first
           | (clear mk6
              go_simp
              (go_at_call 7; (with_reducible refine (HF2.out _ _ _ HZ.out.b.st).mono ?_); rintro x wf ⟨a4, y4, rfl, hb, hs⟩; have HS := Lib.hid hs; replace HZ := Lib.hid (HZ.out.below hb); replace HE := Lib.hid (HE.out.below hb); clear hb hs)
              try go_wp2_with fail
              refine hK.out _ _ (HKS.out _ _ _ HZ.out) (fun hHeld => ?_)
              clear hK K
              try simp only [Act.put, List.setIfInBounds_toArray, List.set_cons_zero, List.set_cons_succ]
              rename World => Wc
              have s4_8_9 : True := trivial))
      | (clear s4_8
         refine wpAnyH_ready (rs := [7, 9]) (by kernel_rfl) (by simp) (AllReadyH.cons (o := { dst := some 20, op := _, type := _, pos := _, after := _, guard := _ }) rfl (fun K hK => (fun (mk7 : True) => ?_) trivial) (AllReadyH.cons (o := { dst := some 8, op := _, type := _, pos := _, after := _, guard := _ }) rfl (fun K hK => (fun (mk9 : True) => ?_) trivial) AllReadyH.nil))
         all_goals first
           | (clear mk7
              go_simp
              (go_at_call 16; (with_reducible refine (HTU.out _ _ _ HS.out).mono ?_); rintro x wf ⟨a5, y5, rfl, hb, hs⟩; have HU := Lib.hid hs; replace HZ := Lib.hid (HZ.out.below hb); replace HE := Lib.hid (HE.out.below hb); clear hb hs; clear HS)
              try go_wp2_with fail
              refine hK.out _ _ (HKS.out _ _ _ HZ.out) (fun hHeld => ?_)
              clear hK K
              try simp only [Act.put, List.setIfInBounds_toArray, List.set_cons_zero, List.set_cons_succ]
              rename World => Wc
              have s5_8 : True := trivial)
           | (clear mk9
              go_simp
              refine hK.out _ _ (HKS.out _ _ _ HZ.out.a8) (fun hHeld => ?_)
              clear hK K
              try simp only [Act.put, List.setIfInBounds_toArray, List.set_cons_zero, List.set_cons_succ]
              replace HZ := Lib.hid HZ.out.a8
              replace HE := Lib.hid (HE.out.below (bbox Wc (.cells #[.bool false, .slice none 0 0, .slice none 0 0] 24)))
              replace HS := Lib.hid (HS.out.below (bbox Wc (.cells #[.bool false, .slice none 0 0, .slice none 0 0] 24)))
              generalize World.alloc Wc _ = Wn at HZ HE HS hHeld ⊢
              generalize Wc.heap.size = m8 at HZ ⊢
              rename World => Wc
              have s4_8_9 : True := trivial))
      | (clear s4_9
         refine wpAnyH_ready (rs := [7, 8]) (by kernel_rfl) (by simp) (AllReadyH.cons (o := { dst := some 20, op := _, type := _, pos := _, after := _, guard := _ }) rfl (fun K hK => (fun (mk7 : True) => ?_) trivial) (AllReadyH.cons (o := { dst := some 7, op := _, type := _, pos := _, after := _, guard := _ }) rfl (fun K hK => (fun (mk8 : True) => ?_) trivial) AllReadyH.nil))
         all_goals first
           | (clear mk7
              go_simp
              (go_at_call 16; (with_reducible refine (HTU.out _ _ _ HS.out).mono ?_); rintro x wf ⟨a5, y5, rfl, hb, hs⟩; have HU := Lib.hid hs; replace HZ := Lib.hid (HZ.out.below hb); replace HE := Lib.hid (HE.out.below hb); clear hb hs; clear HS)
              try go_wp2_with fail
              refine hK.out _ _ (HKS.out _ _ _ HZ.out) (fun hHeld => ?_)
              clear hK K
              try simp only [Act.put, List.setIfInBounds_toArray, List.set_cons_zero, List.set_cons_succ]
              rename World => Wc
              have s5_9 : True := trivial)
           | (clear mk8
              go_simp
              refine hK.out _ _ (HKS.out _ _ _ HZ.out.a7) (fun hHeld => ?_)
              clear hK K
              try simp only [Act.put, List.setIfInBounds_toArray, List.set_cons_zero, List.set_cons_succ]
              replace HZ := Lib.hid HZ.out.a7
              replace HE := Lib.hid (HE.out.below (bbox Wc (.cells #[.bool false, .slice none 0 0, .slice none 0 0] 24)))
              replace HS := Lib.hid (HS.out.below (bbox Wc (.cells #[.bool false, .slice none 0 0, .slice none 0 0] 24)))
              generalize World.alloc Wc _ = Wn at HZ HE HS hHeld ⊢
              generalize Wc.heap.size = m7 at HZ ⊢
              rename World => Wc
              have s4_8_9 : True := trivial))
      | (clear s5
         refine wpAnyH_ready (rs := [8, 9]) (by kernel_rfl) (by simp) (AllReadyH.cons (o := { dst := some 7, op := _, type := _, pos := _, after := _, guard := _ }) rfl (fun K hK => (fun (mk8 : True) => ?_) trivial) (AllReadyH.cons (o := { dst := some 8, op := _, type := _, pos := _, after := _, guard := _ }) rfl (fun K hK => (fun (mk9 : True) => ?_) trivial) AllReadyH.nil))
         all_goals first
           | (clear mk8
              go_simp
              refine hK.out _ _ (HKS.out _ _ _ HZ.out.a7) (fun hHeld => ?_)
              clear hK K
              try simp only [Act.put, List.setIfInBounds_toArray, List.set_cons_zero, List.set_cons_succ]
              replace HZ := Lib.hid HZ.out.a7
              replace HE := Lib.hid (HE.out.below (bbox Wc (.cells #[.bool false, .slice none 0 0, .slice none 0 0] 24)))
              replace HU := Lib.hid (HU.out.below (bbox Wc (.cells #[.bool false, .slice none 0 0, .slice none 0 0] 24)))
              generalize World.alloc Wc _ = Wn at HZ HE HU hHeld ⊢
              generalize Wc.heap.size = m7 at HZ ⊢
              rename World => Wc
              have s5_8 : True := trivial)
           | (clear mk9
              go_simp
              refine hK.out _ _ (HKS.out _ _ _ HZ.out.a8) (fun hHeld => ?_)
              clear hK K
              try simp only [Act.put, List.setIfInBounds_toArray, List.set_cons_zero, List.set_cons_succ]
              replace HZ := Lib.hid HZ.out.a8
              replace HE := Lib.hid (HE.out.below (bbox Wc (.cells #[.bool false, .slice none 0 0, .slice none 0 0] 24)))
              replace HU := Lib.hid (HU.out.below (bbox Wc (.cells #[.bool false, .slice none 0 0, .slice none 0 0] 24)))
              generalize World.alloc Wc _ = Wn at HZ HE HU hHeld ⊢
              generalize Wc.heap.size = m8 at HZ ⊢
              rename World => Wc
              have s5_9 : True := trivial))
    all_goals first
      | (clear s4_8_9
         refine wpAnyH_ready (rs := [7]) (by kernel_rfl) (by simp) (AllReadyH.cons (o := { dst := some 20, op := _, type := _, pos := _, after := _, guard := _ }) rfl (fun K hK => (fun (mk7 : True) => ?_) trivial) AllReadyH.nil)
         all_goals first
           | (clear mk7
              go_simp
              (go_at_call 16; (with_reducible refine (HTU.out _ _ _ HS.out).mono ?_); rintro x wf ⟨a5, y5, rfl, hb, hs⟩; have HU := Lib.hid hs; replace HZ := Lib.hid (HZ.out.below hb); replace HE := Lib.hid (HE.out.below hb); clear hb hs; clear HS)
              try go_wp2_with fail
              refine hK.out _ _ (HKS.out _ _ _ HZ.out) (fun hHeld => ?_)
              clear hK K
              try simp only [Act.put, List.setIfInBounds_toArray, List.set_cons_zero, List.set_cons_succ]
              rename World => Wc
              have s5_8_9 : True := trivial))
      | (clear s5_8
         refine wpAnyH_ready (rs := [9]) (by kernel_rfl) (by simp) (AllReadyH.cons (o := { dst := some 8, op := _, type := _, pos := _, after := _, guard := _ }) rfl (fun K hK => (fun (mk9 : True) => ?_) trivial) AllReadyH.nil)
         all_goals first
           | (clear mk9
              go_simp
              refine hK.out _ _ (HKS.out _ _ _ HZ.out.a8) (fun hHeld => ?_)
              clear hK K
              try simp only [Act.put, List.setIfInBounds_toArray, List.set_cons_zero, List.set_cons_succ]
              replace HZ := Lib.hid HZ.out.a8
              replace HE := Lib.hid (HE.out.below (bbox Wc (.cells #[.bool false, .slice none 0 0, .slice none 0 0] 24)))
              replace HU := Lib.hid (HU.out.below (bbox Wc (.cells #[.bool false, .slice none 0 0, .slice none 0 0] 24)))
              generalize World.alloc Wc _ = Wn at HZ HE HU hHeld ⊢
              generalize Wc.heap.size = m8 at HZ ⊢
              rename World => Wc
              have s5_8_9 : True := trivial))
      | (clear s5_9
         refine wpAnyH_ready (rs := [8]) (by kernel_rfl) (by simp) (AllReadyH.cons (o := { dst := some 7, op := _, type := _, pos := _, after := _, guard := _ }) rfl (fun K hK => (fun (mk8 : True) => ?_) trivial) AllReadyH.nil)
         all_goals first
           | (clear mk8
              go_simp
              refine hK.out _ _ (HKS.out _ _ _ HZ.out.a7) (fun hHeld => ?_)
              clear hK K
              try simp only [Act.put, List.setIfInBounds_toArray, List.set_cons_zero, List.set_cons_succ]
              replace HZ := Lib.hid HZ.out.a7
              replace HE := Lib.hid (HE.out.below (bbox Wc (.cells #[.bool false, .slice none 0 0, .slice none 0 0] 24)))
              replace HU := Lib.hid (HU.out.below (bbox Wc (.cells #[.bool false, .slice none 0 0, .slice none 0 0] 24)))
              generalize World.alloc Wc _ = Wn at HZ HE HU hHeld ⊢
              generalize Wc.heap.size = m7 at HZ ⊢
              rename World => Wc
              have s5_8_9 : True := trivial))
    all_goals (
      clear s5_8_9
      have h7f : free? Wc m7 0 3 = true := obj_free_at (HZ.out.h7 _ rfl).2 0 3 (Nat.le_refl _)
      have hk3 : fok (stC e a3 y3).toArray 3 = true := fok_of rfl (HE.out.sta.one e)
      have hk5 : fok (stC false a5 y5).toArray 3 = true := fok_of rfl (HU.out.sta.one false)
      have H1 := Lib.hid (HZ.out.store HE.out HU.out)
      refine wpAnyH_ready (rs := [10]) (by kernel_rfl) (by simp) (AllReadyH.cons (o := { dst := none, op := _, type := _, pos := _, after := _, guard := _ }) rfl (fun K hK => ?_) AllReadyH.nil)
      go_simp
      refine hK.out _ _ (st_row H1.out.b.one) (fun hHeld => ?_)
      clear hK K
      try simp only [Act.put, List.setIfInBounds_toArray, List.set_cons_zero, List.set_cons_succ]
      generalize aggW Wc m7 _ = V1 at H1 hHeld ⊢
      have h8f : free? V1 m8 0 3 = true := obj_free_at H1.out.o8 0 3 (Nat.le_refl _)
      have H2 := Lib.hid H1.out.store
      refine wpAnyH_ready (rs := [11]) (by kernel_rfl) (by simp) (AllReadyH.cons (o := { dst := none, op := _, type := _, pos := _, after := _, guard := _ }) rfl (fun K hK => ?_) AllReadyH.nil)
      go_simp
      refine hK.out _ _ (st_row H2.out.b.one) (fun hHeld => ?_)
      clear hK K
      try simp only [Act.put, List.setIfInBounds_toArray, List.set_cons_zero, List.set_cons_succ]
      generalize aggW V1 m8 _ = V2 at H2 hHeld ⊢
      refine wpAnyH_done (by kernel_rfl) ?_ _
      try go_wp2_with fail
      go_meet
      case rel => exact ⟨m7, m8, _, _, _, _, rfl, rfl, H2.out⟩)
  case rest =>
    clear HKS HT HF2 HA2 HEX HTU
    obtain ⟨m7, m8, a3, y3, a5, y5, rfl, rfl, hq⟩ := hcut
    have HQ := Lib.hid hq
    clear hq
    go_upto_region 3 with (fail)
    refine wp_region_held_drew (S := fun W => row? W w.heap.size 0 3 = some (stC e a1 y1) ∧ row? W m7 0 3 = some (stC e a3 y3) ∧ row? W m8 0 3 = some (stC false a5 y5)) (by kernel_rfl) ((LtQ.keep _ wc.drew HQ.out (bdrewN (Below.refl _ _) 1)).facts) (fun hHeld => ?_)
    replace HQ := Lib.hid (LtQ.keep _ wc.drew HQ.out (bdrewN (Below.refl _ _) 1))
    generalize World.drew wc = W8 at HQ hHeld ⊢
    refine wpAnyH_take (i := 0) (oi := { dst := some 21, op := _, type := _, pos := _, after := _, guard := _ }) (v := ?v31) rfl (by kernel_rfl) (by kernel_rfl) (by kernel_rfl) (fun _ _ _ h => h) (Or.inl ⟨by rfl, ?y31⟩) (by assumption) ?r31
    case y31 => (intro w hSw; go_simp; try with_reducible rfl)
    try simp only [Act.put, List.setIfInBounds_toArray, List.set_cons_zero, List.set_cons_succ]
    refine wpAnyH_take (i := 1) (oi := { dst := some 22, op := _, type := _, pos := _, after := _, guard := _ }) (v := ?v32) rfl (by kernel_rfl) (by kernel_rfl) (by kernel_rfl) (fun _ _ _ h => h) (Or.inl ⟨by rfl, ?y32⟩) (by assumption) ?r32
    case y32 => (intro w hSw; go_simp; try with_reducible rfl)
    try simp only [Act.put, List.setIfInBounds_toArray, List.set_cons_zero, List.set_cons_succ]
    refine wpAnyH_take (i := 2) (oi := { dst := some 23, op := _, type := _, pos := _, after := _, guard := _ }) (v := ?v33) rfl (by kernel_rfl) (by kernel_rfl) (by kernel_rfl) (fun _ _ _ h => h) (Or.inl ⟨by rfl, ?y33⟩) (by assumption) ?r33
    case y33 => (intro w hSw; go_simp; try with_reducible rfl)
    try simp only [Act.put, List.setIfInBounds_toArray, List.set_cons_zero, List.set_cons_succ]
    refine wpAnyH_ready (rs := [3]) (by kernel_rfl) (by simp) (AllReadyH.cons (o := _) rfl (fun K hK => ?_) AllReadyH.nil)
    go_simp
    (go_at_call 18; (with_reducible refine (HRX.out _ _ _ _ HQ.out.b.st HQ.out.b.vl).mono ?_); rintro x w8 ⟨a6, y6, rfl, hb, ho⟩; replace HQ := Lib.hid (LtQ.keep _ _ HQ.out hb); have HVB := Lib.hid ho; clear hb ho)
    try go_wp2_with fail
    refine hK.out _ _ (HQ.out.facts) (fun hHeld => ?_)
    clear hK K
    try simp only [Act.put, List.setIfInBounds_toArray, List.set_cons_zero, List.set_cons_succ]
    refine wpAnyH_ready (rs := [4]) (by kernel_rfl) (by simp) (AllReadyH.cons (o := _) rfl (fun K hK => ?_) AllReadyH.nil)
    go_simp
    (go_at_call 17; (with_reducible refine (HSE.out _ _ _ _ _ HQ.out.s7.sta HVB.out).mono ?_); rintro x w9 ⟨rfl, hb⟩; replace HQ := Lib.hid (LtQ.keep _ _ HQ.out hb); clear hb HVB)
    try go_wp2_with fail
    refine hK.out _ _ (HQ.out.facts) (fun hHeld => ?_)
    clear hK K
    try simp only [Act.put, List.setIfInBounds_toArray, List.set_cons_zero, List.set_cons_succ]
    refine wpAnyH_take (i := 5) (oi := { dst := some 26, op := _, type := _, pos := _, after := _, guard := _ }) (v := ?v34) rfl (by kernel_rfl) (by kernel_rfl) (by kernel_rfl) (fun _ _ _ h => h) (Or.inl ⟨by rfl, ?y34⟩) (by assumption) ?r34
    case y34 => (intro w hSw; go_simp; try with_reducible rfl)
    try simp only [Act.put, List.setIfInBounds_toArray, List.set_cons_zero, List.set_cons_succ]
    refine wpAnyH_take (i := 6) (oi := { dst := some 27, op := _, type := _, pos := _, after := _, guard := _ }) (v := ?v35) rfl (by kernel_rfl) (by kernel_rfl) (by kernel_rfl) (fun _ _ _ h => h) (Or.inl ⟨by rfl, ?y35⟩) (by assumption) ?r35
    case y35 => (intro w hSw; go_simp; try with_reducible rfl)
    try simp only [Act.put, List.setIfInBounds_toArray, List.set_cons_zero, List.set_cons_succ]
    refine wpAnyH_take (i := 7) (oi := { dst := some 28, op := _, type := _, pos := _, after := _, guard := _ }) (v := ?v36) rfl (by kernel_rfl) (by kernel_rfl) (by kernel_rfl) (fun _ _ _ h => h) (Or.inl ⟨by rfl, ?y36⟩) (by assumption) ?r36
    case y36 => (intro w hSw; go_simp; try with_reducible rfl)
    try simp only [Act.put, List.setIfInBounds_toArray, List.set_cons_zero, List.set_cons_succ]
    refine wpAnyH_take (i := 8) (oi := { dst := some 29, op := _, type := _, pos := _, after := _, guard := _ }) (v := ?v37) rfl (by kernel_rfl) (by kernel_rfl) (by kernel_rfl) (fun _ _ _ h => h) (Or.inl ⟨by rfl, ?y37⟩) (by assumption) ?r37
    case y37 => (intro w hSw; go_simp; try with_reducible rfl)
    try simp only [Act.put, List.setIfInBounds_toArray, List.set_cons_zero, List.set_cons_succ]
    refine wpAnyH_ready (rs := [9]) (by kernel_rfl) (by simp) (AllReadyH.cons (o := _) rfl (fun K hK => ?_) AllReadyH.nil)
    go_simp
    (go_at_call 19; (with_reducible refine (HRT.out _ _ _ HQ.out.b.st).mono ?_); rintro x w10 ⟨a7, y7, rfl, hb, ho⟩; replace HQ := Lib.hid (LtQ.keep _ _ HQ.out hb); have HVB := Lib.hid ho; clear hb ho)
    try go_wp2_with fail
    refine hK.out _ _ (HQ.out.facts) (fun hHeld => ?_)
    clear hK K
    try simp only [Act.put, List.setIfInBounds_toArray, List.set_cons_zero, List.set_cons_succ]
    refine wpAnyH_ready (rs := [10]) (by kernel_rfl) (by simp) (AllReadyH.cons (o := _) rfl (fun K hK => ?_) AllReadyH.nil)
    go_simp
    (go_at_call 17; (with_reducible refine (HST.out _ _ _ _ _ HQ.out.s8.sta HVB.out).mono ?_); rintro x w11 ⟨rfl, hb⟩; replace HQ := Lib.hid (LtQ.keep _ _ HQ.out hb); clear hb HVB)
    try go_wp2_with fail
    refine hK.out _ _ (HQ.out.facts) (fun hHeld => ?_)
    clear hK K
    try simp only [Act.put, List.setIfInBounds_toArray, List.set_cons_zero, List.set_cons_succ]
    refine wpAnyH_take (i := 11) (oi := { dst := some 32, op := _, type := _, pos := _, after := _, guard := _ }) (v := ?v38) rfl (by kernel_rfl) (by kernel_rfl) (by kernel_rfl) (fun _ _ _ h => h) (Or.inl ⟨by rfl, ?y38⟩) (by assumption) ?r38
    case y38 => (intro w hSw; go_simp; try with_reducible rfl)
    try simp only [Act.put, List.setIfInBounds_toArray, List.set_cons_zero, List.set_cons_succ]
    refine wpAnyH_take (i := 12) (oi := { dst := some 33, op := _, type := _, pos := _, after := _, guard := _ }) (v := ?v39) rfl (by kernel_rfl) (by kernel_rfl) (by kernel_rfl) (fun _ _ _ h => h) (Or.inl ⟨by rfl, ?y39⟩) (by assumption) ?r39
    case y39 => (intro w hSw; go_simp; try with_reducible rfl)
    try simp only [Act.put, List.setIfInBounds_toArray, List.set_cons_zero, List.set_cons_succ]
    refine wpAnyH_take (i := 13) (oi := { dst := some 34, op := _, type := _, pos := _, after := _, guard := _ }) (v := ?v40) rfl (by kernel_rfl) (by kernel_rfl) (by kernel_rfl) (fun _ _ _ h => h) (Or.inl ⟨by rfl, ?y40⟩) (by assumption) ?r40
    case y40 => (intro w hSw; go_simp; try with_reducible rfl)
    try simp only [Act.put, List.setIfInBounds_toArray, List.set_cons_zero, List.set_cons_succ]
    refine wpAnyH_take (i := 14) (oi := { dst := some 35, op := _, type := _, pos := _, after := _, guard := _ }) (v := ?v41) rfl (by kernel_rfl) (by kernel_rfl) (by kernel_rfl) (fun _ _ _ h => h) (Or.inl ⟨by rfl, ?y41⟩) (by assumption) ?r41
    case y41 => (intro w hSw; go_simp; try with_reducible rfl)
    try simp only [Act.put, List.setIfInBounds_toArray, List.set_cons_zero, List.set_cons_succ]
    refine wpAnyH_ready (rs := [15]) (by kernel_rfl) (by simp) (AllReadyH.cons (o := _) rfl (fun K hK => ?_) AllReadyH.nil)
    go_simp
    (go_at_call 13; (with_reducible refine (HGE.out _ _ _ HQ.out.s7).mono ?_); rintro x w12 ⟨rfl, hb⟩; replace HQ := Lib.hid (LtQ.keep _ _ HQ.out hb); clear hb)
    try go_wp2_with fail
    refine hK.out _ _ (HQ.out.facts) (fun hHeld => ?_)
    clear hK K
    try simp only [Act.put, List.setIfInBounds_toArray, List.set_cons_zero, List.set_cons_succ]
    refine wpAnyH_take (i := 16) (oi := { dst := some 37, op := _, type := _, pos := _, after := _, guard := _ }) (v := ?v42) rfl (by kernel_rfl) (by kernel_rfl) (by kernel_rfl) (fun _ _ _ h => h) (Or.inl ⟨by rfl, ?y42⟩) (by assumption) ?r42
    case y42 => (intro w hSw; go_simp; try with_reducible rfl)
    try simp only [Act.put, List.setIfInBounds_toArray, List.set_cons_zero, List.set_cons_succ]
    refine wpAnyH_take (i := 17) (oi := { dst := some 38, op := _, type := _, pos := _, after := _, guard := _ }) (v := ?v43) rfl (by kernel_rfl) (by kernel_rfl) (by kernel_rfl) (fun _ _ _ h => h) (Or.inl ⟨by rfl, ?y43⟩) (by assumption) ?r43
    case y43 => (intro w hSw; go_simp; try with_reducible rfl)
    try simp only [Act.put, List.setIfInBounds_toArray, List.set_cons_zero, List.set_cons_succ]
    refine wpAnyH_take (i := 18) (oi := { dst := some 39, op := _, type := _, pos := _, after := _, guard := _ }) (v := ?v44) rfl (by kernel_rfl) (by kernel_rfl) (by kernel_rfl) (fun _ _ _ h => h) (Or.inl ⟨by rfl, ?y44⟩) (by assumption) ?r44
    case y44 => (intro w hSw; go_simp; try with_reducible rfl)
    try simp only [Act.put, List.setIfInBounds_toArray, List.set_cons_zero, List.set_cons_succ]
    refine wpAnyH_take (i := 19) (oi := { dst := some 40, op := _, type := _, pos := _, after := _, guard := _ }) (v := ?v45) rfl (by kernel_rfl) (by kernel_rfl) (by kernel_rfl) (fun _ _ _ h => h) (Or.inl ⟨by rfl, ?y45⟩) (by assumption) ?r45
    case y45 => (intro w hSw; go_simp; try with_reducible rfl)
    try simp only [Act.put, List.setIfInBounds_toArray, List.set_cons_zero, List.set_cons_succ]
    refine wpAnyH_ready (rs := [20]) (by kernel_rfl) (by simp) (AllReadyH.cons (o := _) rfl (fun K hK => ?_) AllReadyH.nil)
    go_simp
    (go_at_call 13; (with_reducible refine (HGT.out _ _ _ HQ.out.s8).mono ?_); rintro x w13 ⟨rfl, hb⟩; replace HQ := Lib.hid (LtQ.keep _ _ HQ.out hb); clear hb)
    try go_wp2_with fail
    refine hK.out _ _ (HQ.out.facts) (fun hHeld => ?_)
    clear hK K
    try simp only [Act.put, List.setIfInBounds_toArray, List.set_cons_zero, List.set_cons_succ]
    refine wpAnyH_take (i := 21) (oi := { dst := some 42, op := _, type := _, pos := _, after := _, guard := _ }) (v := ?v46) rfl (by kernel_rfl) (by kernel_rfl) (by kernel_rfl) (fun _ _ _ h => h) (Or.inl ⟨by rfl, ?y46⟩) (by assumption) ?r46
    case y46 => (intro w hSw; go_simp; try with_reducible rfl)
    try simp only [Act.put, List.setIfInBounds_toArray, List.set_cons_zero, List.set_cons_succ]
    refine wpAnyH_take (i := 22) (oi := { dst := some 43, op := _, type := _, pos := _, after := _, guard := _ }) (v := ?v47) rfl (by kernel_rfl) (by kernel_rfl) (by kernel_rfl) (fun _ _ _ h => h) (Or.inl ⟨by rfl, ?y47⟩) (by assumption) ?r47
    case y47 => (intro w hSw; go_simp; try with_reducible rfl)
    try simp only [Act.put, List.setIfInBounds_toArray, List.set_cons_zero, List.set_cons_succ]
    refine wpAnyH_done (by kernel_rfl) ?_ _
    clear hHeld
    go_upto_region 5 with (fail)
    have hne2 : (lv == lv) = true := by cases lv <;> rfl
    have hne3 : (gv == gv) = true := by cases gv <;> rfl
    cases gv with
    | true =>
      obtain rfl := hgl rfl
      have f1 : ∀ p : InS (LtQ w e a1 y1 F (.slice lp ln lc) L (C.toArray) m7 m8 a3 y3 E a5 y5 T), row? p.W w.heap.size 0 3 = some (stC e a1 y1) := fun p => st_row p.h.b.one
      have f2 : ∀ p : InS (LtQ w e a1 y1 F (.slice lp ln lc) L (C.toArray) m7 m8 a3 y3 E a5 y5 T), row? p.W (w.heap.size + 1) 0 17 = some C := fun p => HAD.out _ p.h.b.adr
      have hne : Nonempty (InS (LtQ w e a1 y1 F (.slice lp ln lc) L (C.toArray) m7 m8 a3 y3 E a5 y5 T)) := ⟨⟨_, HQ.out⟩⟩
      refine wp_region_inS (LtQ w e a1 y1 F (.slice lp ln lc) L (C.toArray) m7 m8 a3 y3 E a5 y5 T) (by kernel_rfl) (by kernel_rfl) (LtQ.keep _ _ HQ.out (bdrewN (Below.refl _ _) 1)) ?_
      repeat (go_big_quiet_step (first
        | (go_at_call 20; with_reducible exact Calls.inS LtQ.keep _ (fun W q => HLT.out W _ _ q.b.st))
        | (go_at_call 21; with_reducible exact Calls.inS LtQ.keep _ (fun W q => HLR.out W _ _ q.b.st))
        | (go_at_call 22; with_reducible exact Calls.inS LtQ.keep _ (fun W q => HGO.out W _ _ q.b.st))
        | (go_at_call 23; with_reducible exact Calls.inS LtQ.keep _ (fun W q => HGR.out W _ _ q.b.st))
        | (go_at_call 14; with_reducible exact Calls.inS LtQ.keep _ (fun W _ => HLV.out W))))
      refine wpQuiet_nil ?_
      rintro _ ⟨⟨W2, hS2⟩, rfl⟩
      have H2 := Lib.hid hS2
      clear hS2 hne f1 f2
      go_wp2
      go_ret
      exact ⟨rfl, H2.out.b.blw⟩
    | false =>
      have f1 : ∀ p : InS (LtQ w e a1 y1 F (.slice lp ln lc) L (C.toArray) m7 m8 a3 y3 E a5 y5 T), row? p.W w.heap.size 0 3 = some (stC e a1 y1) := fun p => st_row p.h.b.one
      have f2 : ∀ p : InS (LtQ w e a1 y1 F (.slice lp ln lc) L (C.toArray) m7 m8 a3 y3 E a5 y5 T), row? p.W (w.heap.size + 1) 0 17 = some C := fun p => HAD.out _ p.h.b.adr
      have hne : Nonempty (InS (LtQ w e a1 y1 F (.slice lp ln lc) L (C.toArray) m7 m8 a3 y3 E a5 y5 T)) := ⟨⟨_, HQ.out⟩⟩
      refine wp_region_inS (LtQ w e a1 y1 F (.slice lp ln lc) L (C.toArray) m7 m8 a3 y3 E a5 y5 T) (by kernel_rfl) (by kernel_rfl) (LtQ.keep _ _ HQ.out (bdrewN (Below.refl _ _) 1)) ?_
      repeat (go_big_quiet_step (first
        | (go_at_call 20; with_reducible exact Calls.inS LtQ.keep _ (fun W q => HLT.out W _ _ q.b.st))
        | (go_at_call 21; with_reducible exact Calls.inS LtQ.keep _ (fun W q => HLR.out W _ _ q.b.st))
        | (go_at_call 22; with_reducible exact Calls.inS LtQ.keep _ (fun W q => HGO.out W _ _ q.b.st))
        | (go_at_call 23; with_reducible exact Calls.inS LtQ.keep _ (fun W q => HGR.out W _ _ q.b.st))
        | (go_at_call 14; with_reducible exact Calls.inS LtQ.keep _ (fun W _ => HLV.out W))))
      refine wpQuiet_nil ?_
      rintro _ ⟨⟨W2, hS2⟩, rfl⟩
      have H2 := Lib.hid hS2
      clear hS2 hne f1 f2
      go_wp2
      go_ret
      exact ⟨rfl, H2.out.b.blw⟩
end Go.Proofs.Ytokpogoblnhihaa
