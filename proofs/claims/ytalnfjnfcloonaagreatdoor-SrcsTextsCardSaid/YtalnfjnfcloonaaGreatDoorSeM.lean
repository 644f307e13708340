/-
  The law's slices of addresses, carried along from call to call, and what each call adds.
-/
import Derived.Test.YtalnfjnfcloonaaGreatDoorMg41
import Derived.Test.YtalnfjnfcloonaaGreatDoorSeH
import Derived.Test.YtalnfjnfcloonaaGreatDoorMg17
namespace Go.Proofs.YtalnfjnfcloonaaGreatDoor
open Go.RowKit
set_option linter.unusedVariables false
set_option linter.unusedSimpArgs false
attribute [local go_sem ↓] ld_addr st_addr adsLit_eq
attribute [local go_sem] ldr_addr str_addr row?_drewN_eq row?_drew_eq

set_option maxRecDepth 100000 in
set_option maxHeartbeats 2000000 in
theorem laddrs_own (v : Value) (l : List AD) (n : Nat) (hn : n ≤ 1000) (w : World) (ha : Ads w v l) : Calls Tryz.prog 6 #[v, .int .i64 n] w fun x w' => ∃ v', x = .returned v' ∧ Below w.heap.size w w' ∧ OwnL w' w.heap.size v' (l.take n) := by
  obtain ⟨p, cap, rfl, hl1, hl2⟩ := ha.len
  obtain ⟨i0, hi0, hz0, hz1, hz2⟩ := info_parts info_ad
  have HRA : Hid (l ≠ [] → ∃ b o, p = some ⟨b, o, none⟩ ∧ b < w.heap.size ∧ AdsAt w b o l) := Lib.hid fun hne => by
    obtain ⟨b, o, cap', e, _, _, h3, h4⟩ := ha.parts hne
    simp only [Value.slice.injEq] at e
    exact ⟨b, o, e.1, h3, h4⟩
  have OA := Lib.hid ha.ok
  obtain ⟨q, hq⟩ : ∃ q, q = l.length := ⟨_, rfl⟩
  have HQ := Lib.hid hq
  have hmx : q ≤ maxLen := by omega
  unfold maxLen at hmx
  rw [← hq]
  clear ha hl1 hl2 hq
  go_enter Tryz.func6, Tryz.ntmps6
  go_wp2_with fail
  go_loopw [5, 6] (fun u i wr => ∃ k : Nat, k ≤ q ∧ k ≤ n ∧ i = .int .i64 k ∧ wr.ownsRow w.heap.size 36 17 u k (adsC (l.take k)) ∧ Hid (Below w.heap.size w wr)) (fun _ i _ => n - (intOf i).toNat)
  case atStart => exact ⟨0, by omega, by omega, rfl, World.ownsRow_lit w #[] 0 (Nat.le_refl _) (by unfold maxLen; omega) (by simp), Lib.hid ((Below.refl _ _).alloc (Nat.le_refl _) _)⟩
  case round =>
    obtain ⟨k, hkq, hkn, rfl, hown, HB⟩ := hrel
    have HO := Lib.hid hown
    clear hown
    by_cases h1 : k < q
    · have t1 : decide ((k : Int) < (q : Int)) = true := decide_eq_true (by omega)
      by_cases h2 : k < n
      · have t2 : decide ((k : Int) < (n : Int)) = true := decide_eq_true (by omega)
        have hk1 : (k : Int) < (q : Int) := by omega
        have g1 : k < l.length := by rw [← HQ.out]; exact h1
        obtain ⟨b, o, rfl, hbl, RA⟩ := HRA.out (fun e => by rw [e] at g1; exact absurd g1 (by simp))
        have r1 := row?_below (RA k g1) hbl HB.out
        have hw1 : IntKind.i64.wrap ((k : Int) + 1) = (k : Int) + 1 := by simp only [IntKind.wrap_i64]; omega
        have hok := OA.out _ (List.getElem_mem g1)
        have HS := Lib.hid (adsC_take g1)
        have HL := Lib.hid (adC_length hok)
        have hlit := adsLit_run _ hok
        have H1 : Hid (∀ u ∈ adC l[k], u.oneCell' = true) := Lib.hid (addrC_one _ _)
        generalize adC l[k] = A at *
        have hown := HO.out
        have hz := HB.out.size
        have hl17 := HL.out
        have h1c := H1.out
        clear RA hok
        go_wp2_with (at_builtin; refine wpList_append_own _ rfl _ _ 22 rfl w.heap.size 36 i0 (.agg #[.bool false, .int .u8 0, .int .u8 0, .int .u8 0, .int .u8 0, .int .u8 0, .int .u8 0, .int .u8 0, .int .u8 0, .int .u8 0, .int .u8 0, .int .u8 0, .int .u8 0, .int .u8 0, .int .u8 0, .int .u8 0, .int .u8 0]) 17 17 Tryz.underlying22 hi0 hz0 hz1 hz2 rfl (by decide) _ _ _ rfl (hown.alloc _) ⟨wr.heap.size, 0, none⟩ 1 1 A rfl hl17 (World.news_of_block (heap_alloc_new wr _)) h1c (by unfold maxLen; omega) (by omega) (by simp; omega) ?_; intro v' w2 hown' hgrow hnil; have Hown := Lib.hid hown'; have Hgrow := Lib.hid hgrow; clear hown' hgrow hnil hown hz hl17 h1c)
        have hv := HO.out.2
        have H2 : Hid (Below w.heap.size w w2) := Lib.hid (HB.out.alloc HB.out.size _ |>.grown Hgrow.out (by have := HB.out.size; simp; omega) (fun q hq => by
          rcases hv with ⟨e1, _⟩ | ⟨g, cap, cur, e1, e2, _⟩
          · subst e1; cases hq
          · subst e1; cases hq; exact e2))
        clear hv
        go_roundw
        case rel => exact ⟨k + 1, by omega, by omega, by go_num, by rw [HS.out]; exact Hown.out, H2⟩
        case measure => simp [intOf]; omega
      · have t2 : ¬ (k : Int) < (n : Int) := by omega
        have hk1 : (k : Int) < (q : Int) := by omega
        have hkn' : n = k := by omega
        have HE := Lib.hid (show (l.take k).length = k by rw [List.length_take, ← HQ.out]; omega)
        have HK := Lib.hid hkn'
        clear h2 hkn'
        go_wp2
        go_ret
        exact ⟨_, rfl, HB.out, by rw [HK.out]; exact own_len HO.out HE.out.symm⟩
    · have t1 : ¬ (k : Int) < (q : Int) := by omega
      have HE := Lib.hid (show l.take n = l.take k ∧ (l.take k).length = k by
        have hq := HQ.out
        refine ⟨?_, by rw [List.length_take]; omega⟩
        rw [List.take_of_length_le (by omega), List.take_of_length_le (by omega)])
      clear h1
      go_wp2
      go_ret
      exact ⟨_, rfl, HB.out, by rw [HE.out.1]; exact own_len HO.out HE.out.2.symm⟩

/-- What is known in a world: boxed addresses and slices of addresses. -/
def Hold (w W : World) (B : List (Nat × AD)) (L : List (Value × List AD)) : Prop :=
  Below w.heap.size w W ∧ Env W ∧ (∀ q ∈ B, ObjAt W q.1 (adC q.2).toArray 36 ∧ adOk q.2) ∧ ∀ p ∈ L, Ads W p.1 p.2 ∧ ∀ n c, p.1 = .slice none n c → c = 0
theorem Hold.below {w W W' : World} {B : List (Nat × AD)} {L : List (Value × List AD)} (h : Hold w W B L) (hb : Below W.heap.size W W') : Hold w W' B L :=
  ⟨bstep h.1 hb, h.2.1.below hb, fun q hq => ⟨(h.2.2.1 q hq).1.below hb (h.2.2.1 q hq).1.lt, (h.2.2.1 q hq).2⟩, fun p hp => ⟨(h.2.2.2 p hp).1.below hb, (h.2.2.2 p hp).2⟩⟩
theorem Hold.add {w W : World} {B : List (Nat × AD)} {L : List (Value × List AD)} {v : Value} {l : List AD} (h : Hold w W B L) (ha : Ads W v l) (hn : ∀ n c, v = .slice none n c → c = 0) : Hold w W B ((v, l) :: L) :=
  ⟨h.1, h.2.1, h.2.2.1, fun p hp => by
    rcases List.mem_cons.1 hp with rfl | hp
    · exact ⟨ha, hn⟩
    · exact h.2.2.2 p hp⟩
theorem Hold.own {w W W' : World} {B : List (Nat × AD)} {L : List (Value × List AD)} {v : Value} {l : List AD} {base : Nat} (h : Hold w W B L) (hb : Below W.heap.size W W') (ho : OwnL W' base v l) (hok : ∀ a ∈ l, adOk a) : ∃ p c, v = .slice p l.length c ∧ Hid (Hold w W' B ((.slice p l.length c, l) :: L)) := by
  have hA : Ads W' v l := Ads.own hok ho
  have hp : ∀ n c, v = .slice none n c → c = 0 := by
    intro n c e
    obtain ⟨h1, ⟨h2, h3⟩ | ⟨g', cap', cur, e1, e2⟩⟩ := ho
    · rw [h2] at e; cases e; rfl
    · rw [e1] at e; cases e
  obtain ⟨p, c, e, _, _⟩ := hA.len
  exact ⟨p, c, e, Lib.hid (by rw [← e]; exact (h.below hb).add hA hp)⟩
theorem Hold.row {w W : World} {B : List (Nat × AD)} {L : List (Value × List AD)} (h : Hold w W B L) {m : Nat} {a : AD} (hm : (m, a) ∈ B) : row? W m 0 17 = some (adC a) := box_row (h.2.2.1 _ hm).1 (h.2.2.1 _ hm).2
section
variable {w W : World} {B : List (Nat × AD)} {L : List (Value × List AD)}
theorem h_rof (l : List AD) (s : List AD) (v : Value) (hl : l.length ≤ 1000) (he : ofA l = s) (h : Hid (Hold w W B L)) (hm : (v, l) ∈ L) : Calls Tryz.prog 5 #[v] W fun x w' => ∃ p c, x = .returned (.slice p s.length c) ∧ Hid (Hold w w' B ((.slice p s.length c, s) :: L)) := by
  subst he
  exact (of11_any v l W (h.out.2.2.2 _ hm).1 (by omega)).mono fun x w' ⟨v', hx, hb, ho⟩ => by
    obtain ⟨p, c, e, hh⟩ := h.out.own hb ho (ofA_ok (h.out.2.2.2 _ hm).1.ok)
    exact ⟨p, c, by rw [hx, e], hh⟩
theorem h_rsame (l m : List AD) (r : Bool) (v u : Value) (he : decide (l = m) = r) (h : Hid (Hold w W B L)) (hl : (v, l) ∈ L) (hm : (u, m) ∈ L) : Calls Tryz.prog 10 #[v, u] W fun x w' => x = .returned (.bool r) ∧ Hid (Hold w w' B L) := by
  subst he
  exact (same11_any v u l m W (h.out.2.2.2 _ hl).1 (h.out.2.2.2 _ hm).1).mono fun x w' ⟨hx, d, hw⟩ => ⟨hx, Lib.hid (by rw [hw]; exact h.out.below (bdrewN (Below.refl _ _) _))⟩
theorem h_lives (h : Hid (Hold w W B L)) : Calls Tryz.prog 11 #[] W fun x w' => x = .returned (.bool true) ∧ Hid (Hold w w' B L) :=
  (lives11_any W h.out.2.1).mono fun x w' ⟨hx, hb⟩ => ⟨hx, Lib.hid (h.out.below hb)⟩
end
end Go.Proofs.YtalnfjnfcloonaaGreatDoor
