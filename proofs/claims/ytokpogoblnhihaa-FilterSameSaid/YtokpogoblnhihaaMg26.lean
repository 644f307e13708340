/-
  Texts joined: SeG, Env, SeJ, SeI.
-/
import Derived.Test.YtokpogoblnhihaaMg24
import Derived.Test.YtokpogoblnhihaaSeF
import Derived.Test.YtokpogoblnhihaaMg03
import Derived.Lib.AppendIntMem
import Derived.Shelf.Spec.TrailingZeros
import Derived.Lib.AppendZeros
import Derived.Test.YtokpogoblnhihaaMg22
import Derived.Deep.LoopGhost
/-
  The contracts of srcs' tidy and Of.
-/
namespace Go.Proofs.Ytokpogoblnhihaa
open Go.RowKit
set_option linter.unusedVariables false
set_option linter.unusedSimpArgs false

theorem OwnL.len {w : World} {base : Nat} {v : Value} {l : List AD} (h : OwnL w base v l) : ∃ p cap, v = .slice p l.length cap := by
  obtain ⟨h1, ⟨h2, h3⟩ | ⟨g', cap', cur, e1, e2, e3, e4, e5, e6, e7⟩⟩ := h
  · rw [h3]; exact ⟨_, _, h2⟩
  · exact ⟨_, _, e1⟩
set_option maxRecDepth 100000 in
theorem tidy_any (base : Nat) (v : Value) (l : List AD) (w : World) (hb : base ≤ w.heap.size) (hok : ∀ a ∈ l, adOk a) (hown : OwnL w base v l) (hll : l.length ≤ 1000000) : Calls Try.prog 46 #[v] w fun x w' => ∃ v' s, x = .returned v' ∧ s.Perm l ∧ s.Pairwise (fun x y => ltA y x = false) ∧ OwnL w' base v' (ded s) ∧ Below base w w' := by
  have HS := Lib.hid (sort_any base v l w hok hown hll)
  have HB := Lib.hid hb
  have HGE := Lib.hid (own_geS hown)
  have HOK := Lib.hid hok
  have HLL := Lib.hid hll
  obtain ⟨p, cap, rfl⟩ := hown.len
  clear hok hown hll hb
  go_enter Try.func46, Try.ntmps46
  go_wp2_with (first
    | (go_at_call 58; (with_reducible refine (HS.out).mono ?_); rintro x w1 ⟨rfl, s, hp, hs, ho, hg⟩; have HP := Lib.hid hp; have HSO := Lib.hid hs; have H1 := Lib.hid ((Below.refl base w).grown hg HB.out (fun k hk => (HGE.out k hk).1)); have HC := Lib.hid (compact_any base _ s w1 (fun a ha => HOK.out a (hp.mem_iff.1 ha)) ho (by rw [hp.length_eq]; exact HLL.out)); clear hp hs ho hg)
    | (go_at_call 59; (with_reducible refine (HC.out).mono ?_); rintro x w2 ⟨v', rfl, ho, hb⟩; have HO := Lib.hid ho; have H2 := Lib.hid (H1.out.trans hb); clear ho hb))
  go_ret
  exact ⟨_, _, rfl, HP.out, HSO.out, HO.out, H2.out⟩
set_option maxRecDepth 100000 in
theorem sof_any (v : Value) (l : List AD) (w : World) (ha : Ads w v l) (hll : l.length ≤ 100000) : Calls Try.prog 29 #[v] w fun x w' => ∃ v', x = .returned v' ∧ Below w.heap.size w w' ∧ OwnL w' w.heap.size v' (ofA l) := by
  have HP := Lib.hid (spick_good v l goodB w ha (fun W a _ hm => good_any a.1 a.2 (ha.ok a hm) W) hll)
  have HOK := Lib.hid ha.ok
  have HLL := Lib.hid hll
  obtain ⟨p, cap, rfl, _, _⟩ := ha.len
  clear ha hll
  go_enter Try.func29, Try.ntmps29
  go_wp2_with (first
    | (go_at_call 47; (with_reducible refine (HP.out).mono ?_); rintro x w1 ⟨v1, rfl, hb, ho⟩; have H1 := Lib.hid hb; have HT := Lib.hid (tidy_any w.heap.size v1 (l.filter goodB) w1 hb.size (fun a ha => HOK.out a (List.mem_filter.1 ha).1) ho (Nat.le_trans (List.length_filter_le _ _) (Nat.le_trans HLL.out (by omega)))); clear hb ho)
    | (go_at_call 46; (with_reducible refine (HT.out).mono ?_); rintro x w2 ⟨v2, s, rfl, hp, hs, ho, hb⟩; have HO := Lib.hid ho; have HPM := Lib.hid hp; have HSO := Lib.hid hs; have H2 := Lib.hid (H1.out.trans hb); clear ho hb hp hs))
  go_ret
  refine ⟨_, rfl, H2.out, ?_⟩
  have e : ded s = ofA l := ded_ofS (fun g => ltA_ord g) HPM.out HSO.out (fun x => by rw [List.mem_filter])
  rw [← e]
  exact HO.out
end Go.Proofs.Ytokpogoblnhihaa

/-
  What the library's tables and variables hold, carried along.
-/
namespace Go.Proofs.Ytokpogoblnhihaa
open Go.RowKit
set_option linter.unusedVariables false

theorem cell_in {w : World} {b o : Nat} {v : Value} (h : w.cell? ⟨b, o, none⟩ = some v) : b < w.heap.size := by
  by_cases hlt : b < w.heap.size
  · exact hlt
  · rw [World.cell?, Array.getElem?_eq_none (by simpa using hlt)] at h
    simp at h
end Go.Proofs.Ytokpogoblnhihaa

/-
  The contracts of slices.Grow of nothing, slices.Concat of two slices of addresses, and srcs' Or.
-/
namespace Go.Proofs.Ytokpogoblnhihaa
open Go.RowKit
set_option linter.unusedVariables false
set_option linter.unusedSimpArgs false

set_option maxRecDepth 100000 in
theorem grow0_any (n : Nat) (hn : n ≤ 1000000) (w : World) : Calls Try.prog 62 #[.slice none 0 0, .int .i64 n] w fun x w' => ∃ v', x = .returned v' ∧ OwnL w' w.heap.size v' [] ∧ Below w.heap.size w w' := by
  by_cases h0 : n = 0
  · subst h0
    go_enter Try.func62, Try.ntmps62
    go_wp2
    go_ret
    exact ⟨_, rfl, World.ownsRow_nil _ _ _ _, Below.refl _ _⟩
  · obtain ⟨i0, hi0, hz0, hz1, hz2⟩ := info_parts info_ad
    have hrz : ∀ (t ty : TypeId) (w : World), Try.prog.underlying t = some (.int .i64) → (Builtin.append_ #[22, t] ty #[.slice none 0 0, .int .i64 n]).run Try.prog w = .ok (.slice (some ⟨w.heap.size, 0, none⟩) n (grownCap w n 0 37)) (w.drew.alloc (.cells (Builtin.zeroCells (#[.bool false, .int .u8 0, .int .u8 0, .int .u8 0, .int .u8 0, .int .u8 0, .int .u8 0, .int .u8 0, .int .u8 0, .int .u8 0, .int .u8 0, .int .u8 0, .int .u8 0, .int .u8 0, .int .u8 0, .int .u8 0, .int .u8 0] : Array Value) n ++ Builtin.zeroCells (#[.bool false, .int .u8 0, .int .u8 0, .int .u8 0, .int .u8 0, .int .u8 0, .int .u8 0, .int .u8 0, .int .u8 0, .int .u8 0, .int .u8 0, .int .u8 0, .int .u8 0, .int .u8 0, .int .u8 0, .int .u8 0, .int .u8 0] : Array Value) (grownCap w n 0 37 - n)) 37)) := fun t ty w ht =>
      Lib.run_append_nil_zeros w 22 t ty 37 i0 _ .i64 .i64 Try.underlying22 ht hi0 hz0 n (by omega) (by rw [hz1]; omega) (by omega) (by rw [hz2]; omega)
    have HOWN : Hid (∀ (c : Array Value) (G : Nat), n ≤ G → G ≤ maxLen → c.size = G * 17 → OwnL (w.drew.alloc (.cells c 37)) w.heap.size (.slice (some ⟨w.heap.size, 0, none⟩) 0 G) []) := Lib.hid fun c G h1 h2 h3 => World.ownsRow_made w.drew c G (Nat.le_refl _) h2 h3
    have hge := grownCap_ge w n 0 37
    have hle := grownCap_le_maxLen w n 0 37 (by unfold maxLen; omega)
    have hsz : (Builtin.zeroCells (#[.bool false, .int .u8 0, .int .u8 0, .int .u8 0, .int .u8 0, .int .u8 0, .int .u8 0, .int .u8 0, .int .u8 0, .int .u8 0, .int .u8 0, .int .u8 0, .int .u8 0, .int .u8 0, .int .u8 0, .int .u8 0, .int .u8 0] : Array Value) n ++ Builtin.zeroCells (#[.bool false, .int .u8 0, .int .u8 0, .int .u8 0, .int .u8 0, .int .u8 0, .int .u8 0, .int .u8 0, .int .u8 0, .int .u8 0, .int .u8 0, .int .u8 0, .int .u8 0, .int .u8 0, .int .u8 0, .int .u8 0, .int .u8 0] : Array Value) (grownCap w n 0 37 - n)).size = grownCap w n 0 37 * 17 := by
      unfold Builtin.zeroCells
      simp only [Array.size_append, Array.size_map, Array.size_range, List.size_toArray, List.length_cons, List.length_nil]
      omega
    have hr2 := fun t ty ht => hrz t ty w ht
    generalize Builtin.zeroCells _ n ++ Builtin.zeroCells _ _ = c at hr2 hsz
    generalize grownCap w n 0 37 = G at hr2 hsz hge hle
    have HO := Lib.hid (HOWN.out c G hge hle hsz)
    have hcap : (0 : Int) < (n : Int) := by omega
    have hm63 : G ≤ 9223372036854775807 := by unfold maxLen at hle; omega
    clear hrz hsz hle hz0 hz1 hz2 hi0 HOWN
    go_enter Try.func62, Try.ntmps62
    go_wp2_with (at_builtin; refine Lib.wpList_append_run _ rfl _ _ _ _ rfl _ _ rfl rfl _ _ (hr2 _ _ (by kernel_rfl)) ?_)
    go_ret
    exact ⟨_, rfl, HO.out, ((Below.refl _ _).drew).alloc (Nat.le_refl _) _⟩
/-- What holds of a slice of two slices. -/
def C2 (w W : World) (p : Nat) (va vb : Value) (la lb : List AD) : Prop := Below w.heap.size w W ∧ W.cell? ⟨p, 0, none⟩ = some va ∧ W.cell? ⟨p, 1, none⟩ = some vb ∧ Ads W va la ∧ Ads W vb lb
theorem C2.below {w W W' : World} {p : Nat} {va vb : Value} {la lb : List AD} (h : C2 w W p va vb la lb) (hp : p < w.heap.size) (hb : Below w.heap.size W W') (hA : Ads w va la) (hB : Ads w vb lb) : C2 w W' p va vb la lb :=
  have h1 := h.1.trans hb
  ⟨h1, (hb.cell (p := ⟨p, 0, none⟩) hp).trans h.2.1, (hb.cell (p := ⟨p, 1, none⟩) hp).trans h.2.2.1, hA.below h1, hB.below h1⟩

set_option maxRecDepth 100000 in
set_option maxHeartbeats 4000000 in
theorem concat_any (va vb : Value) (la lb : List AD) (p : Nat) (w : World) (ha : Ads w va la) (hb : Ads w vb lb) (hpa : ∀ n c, va = .slice none n c → c = 0) (hpb : ∀ n c, vb = .slice none n c → c = 0) (c0 : w.cell? ⟨p, 0, none⟩ = some va) (c1 : w.cell? ⟨p, 1, none⟩ = some vb) (h1 : la.length ≤ 50000) (h2 : lb.length ≤ 50000) :
    Calls Try.prog 55 #[.slice (some ⟨p, 0, none⟩) 2 2] w fun x w' => ∃ v', x = .returned v' ∧ OwnL w' w.heap.size v' (la ++ lb) ∧ Below w.heap.size w w' := by
  have HA := Lib.hid ha
  have HB := Lib.hid hb
  have HPA := Lib.hid hpa
  have HPB := Lib.hid hpb
  have HP := Lib.hid (cell_in c0)
  have HG := Lib.hid (grow0_any (la.length + lb.length) (by omega) w)
  have HOK : Hid ((∀ x ∈ la, adOk x) ∧ ∀ x ∈ lb, adOk x) := Lib.hid ⟨ha.ok, hb.ok⟩
  obtain ⟨qa, ca, ea, _, _⟩ := ha.len
  obtain ⟨qb, cb, eb, _, _⟩ := hb.len
  obtain ⟨na, hna⟩ : ∃ n, n = la.length := ⟨_, rfl⟩
  obtain ⟨nb, hnb⟩ : ∃ n, n = lb.length := ⟨_, rfl⟩
  rw [← hna] at ea h1 HG
  rw [← hnb] at eb h2 HG
  rw [Int.natCast_add] at HG
  have HNA := Lib.hid hna
  have HNB := Lib.hid hnb
  clear ha hb hpa hpb hna hnb
  subst ea eb
  have t0 : wrap64 ((0 : Int) + (na : Int)) = (na : Int) := by unfold wrap64; omega
  have t1 : wrap64 ((na : Int) + (nb : Int)) = (na : Int) + (nb : Int) := by unfold wrap64; omega
  have t2 : ¬ ((na : Int) < 0) := by omega
  have t3 : ¬ ((na : Int) + (nb : Int) < 0) := by omega
  go_enter Try.func55, Try.ntmps55
  go_wp2_with fail
  go_loopw [3, 11] (fun z i wr => w = wr ∧ ((z = .int .i64 0 ∧ i = .int .i64 0) ∨ (z = .int .i64 (na : Int) ∧ i = .int .i64 1) ∨ (z = .int .i64 ((na : Int) + (nb : Int)) ∧ i = .int .i64 2))) (fun _ i _ => 2 - (intOf i).toNat)
  case atStart => exact ⟨rfl, Or.inl ⟨rfl, rfl⟩⟩
  case round =>
    obtain ⟨rfl, ⟨rfl, rfl⟩ | ⟨rfl, rfl⟩ | ⟨rfl, rfl⟩⟩ := hrel
    · go_wp2
      go_roundw
      case rel => exact ⟨by trivial, Or.inr (Or.inl ⟨by first | rfl | go_num, by first | rfl | go_num⟩)⟩
      case measure => simp [intOf]
    · go_wp2
      go_roundw
      case rel => exact ⟨by trivial, Or.inr (Or.inr ⟨by first | rfl | go_num, by first | rfl | go_num⟩)⟩
      case measure => simp [intOf]
    · have HC0 := Lib.hid (fun W (h : Below w.heap.size w W) => C2.below (la := la) (lb := lb) ⟨Below.refl _ _, c0, c1, HA.out, HB.out⟩ HP.out h HA.out HB.out)
      clear c0 c1
      go_wp2_with (go_at_call 62; (with_reducible refine (HG.out).mono ?_); rintro x w1 ⟨v1, rfl, ho, hb⟩; have H1 := Lib.hid (show C2 w w1 p _ _ la lb ∧ OwnL w1 w.heap.size v1 [] from ⟨HC0.out _ hb, ho⟩); clear ho hb)
      go_loopw [6, 27] (fun v i W => (i = .int .i64 0 ∧ Hid (C2 w W p (.slice qa na ca) (.slice qb nb cb) la lb ∧ OwnL W w.heap.size v [])) ∨ (i = .int .i64 1 ∧ Hid (C2 w W p (.slice qa na ca) (.slice qb nb cb) la lb ∧ OwnL W w.heap.size v la)) ∨ (i = .int .i64 2 ∧ Hid (C2 w W p (.slice qa na ca) (.slice qb nb cb) la lb ∧ OwnL W w.heap.size v (la ++ lb)))) (fun _ i _ => 2 - (intOf i).toNat)
      case atStart => exact Or.inl ⟨rfl, H1⟩
      case round =>
        clear H1
        obtain ⟨rfl, H⟩ | ⟨rfl, H⟩ | ⟨rfl, H⟩ := hrel
        · obtain ⟨⟨hbl, d0, d1, hA, hB⟩, ho⟩ := H.out
          have HSRC := Lib.hid (src_of hA HPA.out)
          have HBL := Lib.hid hbl
          clear hbl d1 hA hB ho
          go_wp2_with (at_builtin; refine wpList_app rfl _ _ rfl w.heap.size _ [] la _ rfl (fun x hx => by cases hx) H.out.2 rfl HSRC.out (by rw [← HNA.out]; simp only [List.length_nil]; omega) HBL.out.size ?_; intro v' w3 hown' hgrow'; have HO3 := Lib.hid (show OwnL w3 w.heap.size v' la from hown'); have H3 := Lib.hid (HC0.out _ (bgrown HBL.out hgrow' (fun q hq => (own_geS H.out.2 q hq).1))); clear hown' hgrow')
          go_roundw
          case rel => exact Or.inr (Or.inl ⟨by first | rfl | go_num, Lib.hid ⟨H3.out, HO3.out⟩⟩)
          case measure => simp [intOf]
        · obtain ⟨⟨hbl, d0, d1, hA, hB⟩, ho⟩ := H.out
          have HSRC := Lib.hid (src_of hB HPB.out)
          have HBL := Lib.hid hbl
          clear hbl d0 hA hB ho
          go_wp2_with (at_builtin; refine wpList_app rfl _ _ rfl w.heap.size _ la lb _ rfl HOK.out.1 H.out.2 rfl HSRC.out (by rw [← HNA.out, ← HNB.out]; omega) HBL.out.size ?_; intro v' w3 hown' hgrow'; have HO3 := Lib.hid (show OwnL w3 w.heap.size v' (la ++ lb) from hown'); have H3 := Lib.hid (HC0.out _ (bgrown HBL.out hgrow' (fun q hq => (own_geS H.out.2 q hq).1))); clear hown' hgrow')
          go_roundw
          case rel => exact Or.inr (Or.inr ⟨by first | rfl | go_num, Lib.hid ⟨H3.out, HO3.out⟩⟩)
          case measure => simp [intOf]
        · go_wp2
          go_ret
          exact ⟨_, rfl, H.out.2, H.out.1.1⟩

set_option maxRecDepth 100000 in
theorem sor_any (v u : Value) (l m : List AD) (w : World) (ha : Ads w v l) (hb : Ads w u m) (hpa : ∀ n c, v = .slice none n c → c = 0) (hpb : ∀ n c, u = .slice none n c → c = 0) (hg : ∀ x ∈ l ++ m, goodB x = true) (h1 : l.length ≤ 50000) (h2 : m.length ≤ 50000) : Calls Try.prog 40 #[v, u] w fun x w' => ∃ v', x = .returned v' ∧ Below w.heap.size w w' ∧ OwnL w' w.heap.size v' (orA l m) := by
  have HCC := Lib.hid (fun (T : TypeId) => concat_any v u l m w.heap.size (w.alloc (.cells #[v, u] T)) (ha.below (bbS w _)) (hb.below (bbS w _)) hpa hpb ((ObjAt.made w #[v, u] T).cell 0) ((ObjAt.made w #[v, u] T).cell 1) h1 h2)
  have HB0 := Lib.hid (fun (T : TypeId) => bbS w (.cells #[v, u] T))
  have HOK : Hid (∀ x ∈ l ++ m, adOk x) := Lib.hid fun x hx => (List.mem_append.1 hx).elim (fun h => ha.ok x h) (fun h => hb.ok x h)
  have HGD := Lib.hid hg
  have HLL : Hid ((l ++ m).length ≤ 1000000) := Lib.hid (by rw [List.length_append]; omega)
  obtain ⟨qa, ca, rfl, _, _⟩ := ha.len
  obtain ⟨qb, cb, rfl, _, _⟩ := hb.len
  clear ha hb hpa hpb hg
  go_enter Try.func40, Try.ntmps40
  go_wp2_with (first
    | (go_at_call 55; refine (HCC.out _).mono ?_; rintro x w1 ⟨v1, rfl, ho, hb⟩; have H1 := Lib.hid (bstep (HB0.out _) hb); have HT := Lib.hid (tidy_any w.heap.size v1 (l ++ m) w1 H1.out.size HOK.out (own_mono ho (HB0.out _).size) HLL.out); clear ho hb)
    | (go_at_call 46; (with_reducible refine (HT.out).mono ?_); rintro x w2 ⟨v2, s, rfl, hp, hs, ho, hb⟩; have HO := Lib.hid ho; have HPM := Lib.hid hp; have HSO := Lib.hid hs; have H2 := Lib.hid (H1.out.trans hb); clear ho hb hp hs))
  go_ret
  refine ⟨_, rfl, H2.out, ?_⟩
  have e : ded s = orA l m := ded_ofS (fun g => ltA_ord g) HPM.out HSO.out (fun x => ⟨fun h => ⟨h, HGD.out x h⟩, fun h => h.1⟩)
  rw [← e]
  exact HO.out
end Go.Proofs.Ytokpogoblnhihaa

/-
  The contracts of srcs' pick and of slices.IndexFunc and slices.ContainsFunc over addresses, whatever function value they are given.
-/
namespace Go.Proofs.Ytokpogoblnhihaa
open Go.RowKit
set_option linter.unusedVariables false
set_option linter.unusedSimpArgs false
attribute [local go_sem ↓] ld_addr st_addr adsLit_eq
attribute [local go_sem] ldr_addr str_addr row?_drewN_eq row?_drew_eq

end Go.Proofs.Ytokpogoblnhihaa

