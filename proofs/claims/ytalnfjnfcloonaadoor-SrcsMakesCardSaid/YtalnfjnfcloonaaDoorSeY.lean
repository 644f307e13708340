/-
  The walk of SrcsPairs.
-/
import Derived.Test.YtalnfjnfcloonaaDoorSeM
namespace Go.Proofs.YtalnfjnfcloonaaDoor
open Go.RowKit
set_option linter.unusedVariables false
set_option linter.unusedSimpArgs false

abbrev adsS := sliceS 17 addrS
theorem opens_adsS : Opens Tryd.prog 22 adsS := opens_slice Tryd.underlying22 (by kernel_rfl) (by omega) opens_addrS
theorem nil_of {w : World} {v : Value} {xs : List (Bool × (List UInt8 × Unit))} (h : sliceS 17 addrS w [v] xs) : ∀ n c, v = .slice none n c → c = 0 := by
  rcases h with ⟨h1, h2⟩ | ⟨a, cap, h1, _⟩
  · simp at h1
    intro n c e; rw [h1] at e; cases e; rfl
  · simp at h1
    intro n c e; rw [h1] at e; cases e
theorem orA_comm (a b : List AD) : orA b a = orA a b :=
  ofS_of (ltA_ord goodB) (ofS_sorted (ltA_ord goodB) _) (fun x => by unfold orA ofA; rw [mem_ofS (ltA_ord goodB)]; simp only [List.mem_append]; grind)
theorem orA_parts {a b : List AD} (hs : Sorted ltA a) (hg : ∀ x ∈ a, goodB x = true) : orA (pickA a b true) (pickA a b false) = a :=
  (ofS_of (ltA_ord goodB) hs (fun x => by
    unfold pickA
    simp only [List.mem_append, List.mem_filter]
    constructor
    · intro h
      refine ⟨?_, hg x h⟩
      cases hh : decide (x ∈ b)
      · exact Or.inr ⟨h, rfl⟩
      · exact Or.inl ⟨h, rfl⟩
    · rintro ⟨h | h, _⟩ <;> exact h.1)).symm
theorem within_eq (a b : List AD) : (a.all fun x => decide (x ∈ b)) = decide ((pickA a b false).length = 0) := by
  rw [Bool.eq_iff_iff, decide_eq_true_iff, List.all_eq_true, List.length_eq_zero_iff]
  unfold pickA
  rw [List.filter_eq_nil_iff]
  constructor
  · intro h x hx; have := h x hx; simp at this; simp [this]
  · intro h x hx; have := h x hx; simpa using this
theorem within_both (a b : List AD) : ((pickA a b true).all fun x => decide (x ∈ b)) = true := by
  rw [List.all_eq_true]
  intro x hx
  unfold pickA at hx
  have := (List.mem_filter.1 hx).2
  simpa using this

set_option maxRecDepth 100000 in
set_option maxHeartbeats 8000000 in
theorem pairs_any (v u : Value) (l0 m0 : List AD) (w : World) (hE : Env w) (ha : Ads w v l0) (hb : Ads w u m0) (hpa : ∀ n c, v = .slice none n c → c = 0) (hpb : ∀ n c, u = .slice none n c → c = 0) :
    Calls Tryd.prog 4 #[v, u] w fun x w' => x = .returned (.bool true) ∧ Below w.heap.size w w' := by
  have H : Hid (Hold w w [] [(v, l0), (u, m0)]) := Lib.hid ⟨Below.refl _ _, hE, (fun q hq => by cases hq), fun p hp => by
    simp only [List.mem_cons, List.not_mem_nil, or_false] at hp
    rcases hp with rfl | rfl
    · exact ⟨ha, hpa⟩
    · exact ⟨hb, hpb⟩⟩
  obtain ⟨q, cap, ev, _, _⟩ := ha.len
  obtain ⟨q', cap', eu, _, _⟩ := hb.len
  generalize l0.length = nl at ev
  generalize m0.length = nm at eu
  subst ev eu
  clear ha hb hpa hpb hE
  obtain ⟨lt, hlt⟩ : ∃ s, l0.take 10 = s := ⟨_, rfl⟩
  obtain ⟨mt, hmt⟩ : ∃ s, m0.take 10 = s := ⟨_, rfl⟩
  have HLT := Lib.hid hlt
  have HMT := Lib.hid hmt
  have hl10 : lt.length ≤ 10 := by rw [← hlt, List.length_take]; omega
  have hm10 : mt.length ≤ 10 := by rw [← hmt, List.length_take]; omega
  have HL10 : Hid (lt.length ≤ 1000) := Lib.hid (by omega)
  have HM10 : Hid (mt.length ≤ 1000) := Lib.hid (by omega)
  obtain ⟨a, hea⟩ : ∃ a, ofA lt = a := ⟨_, rfl⟩
  obtain ⟨b, heb⟩ : ∃ b, ofA mt = b := ⟨_, rfl⟩
  have hla : a.length ≤ 10 := by rw [← hea]; exact Nat.le_trans (ofA_length _) hl10
  have hlb : b.length ≤ 10 := by rw [← heb]; exact Nat.le_trans (ofA_length _) hm10
  have hsa : Sorted ltA a := by rw [← hea]; exact ofS_sorted (ltA_ord goodB) _
  have hsb : Sorted ltA b := by rw [← heb]; exact ofS_sorted (ltA_ord goodB) _
  have hga : ∀ x ∈ a, goodB x = true := by rw [← hea]; exact ofS_good (ltA_ord goodB) _
  have hgb : ∀ x ∈ b, goodB x = true := by rw [← heb]; exact ofS_good (ltA_ord goodB) _
  obtain ⟨bo, hebo⟩ : ∃ s, pickA a b true = s := ⟨_, rfl⟩
  obtain ⟨re, here⟩ : ∃ s, pickA a b false = s := ⟨_, rfl⟩
  obtain ⟨o, heo⟩ : ∃ s, orA a b = s := ⟨_, rfl⟩
  have HEA := Lib.hid hea
  have HEB := Lib.hid heb
  have HEBO := Lib.hid hebo
  have HERE := Lib.hid here
  have HEO := Lib.hid heo
  have HEO2 : Hid (orA b a = o) := Lib.hid (by rw [orA_comm]; exact heo)
  have HEO3 : Hid (orA bo re = a) := Lib.hid (by rw [← hebo, ← here]; exact orA_parts hsa hga)
  have HA10 := Lib.hid hla
  have HB10 := Lib.hid hlb
  have HA1 : Hid (a.length ≤ 1000) := Lib.hid (by omega)
  have HB1 : Hid (b.length ≤ 1000) := Lib.hid (by omega)
  have HBO1 : Hid (bo.length ≤ 1000) := Lib.hid (by rw [← hebo]; exact Nat.le_trans (pickA_length _ _ _) (by omega))
  have HRE1 : Hid (re.length ≤ 1000) := Lib.hid (by rw [← here]; exact Nat.le_trans (pickA_length _ _ _) (by omega))
  have HSB := Lib.hid hsb
  have HGAB : Hid (∀ x ∈ a ++ b, goodB x = true) := Lib.hid fun x hx => (List.mem_append.1 hx).elim (hga x) (hgb x)
  have HGBA : Hid (∀ x ∈ b ++ a, goodB x = true) := Lib.hid fun x hx => (List.mem_append.1 hx).elim (hgb x) (hga x)
  have HGBR : Hid (∀ x ∈ bo ++ re, goodB x = true) := Lib.hid fun x hx => by
    rw [← hebo, ← here] at hx
    exact (List.mem_append.1 hx).elim (fun h => hga x (List.mem_filter.1 h).1) (fun h => hga x (List.mem_filter.1 h).1)
  obtain ⟨E, hE0⟩ : ∃ E, decide (a = b) = E := ⟨_, rfl⟩
  have HE0 := Lib.hid hE0
  obtain ⟨Wb, hW⟩ : ∃ r, (a.all fun x => decide (x ∈ b)) = r := ⟨_, rfl⟩
  have HW1 := Lib.hid hW
  have HW2 : Hid ((bo.all fun x => decide (x ∈ b)) = true) := Lib.hid (by rw [← hebo]; exact within_both a b)
  have hlen : ((re.length : Int) == 0) = Wb := by
    rw [← hW, within_eq, here, Bool.eq_iff_iff]; simp
  clear hlt hmt hl10 hm10 hea heb hla hlb hsa hsb hga hgb hebo here heo hE0 hW
  go_enter Tryd.func4, Tryd.ntmps4
  go_wp2_with (first
    | (go_at_call 6; (with_reducible refine' (h_addrs10 (w := w) (B := []) a _ HA10.out _ _).mono _); rotate_left; assumption; (repeat (first | exact List.mem_cons_self | apply List.mem_cons_of_mem)); rintro x wn ⟨p, c, rfl, H⟩)
    | (go_at_call 6; (with_reducible refine' (h_addrs10 (w := w) (B := []) b _ HB10.out _ _).mono _); rotate_left; assumption; (repeat (first | exact List.mem_cons_self | apply List.mem_cons_of_mem)); rintro x wn ⟨p, c, rfl, H⟩)
    | (go_at_call 6; (with_reducible refine' (h_addrs (w := w) (B := []) l0 lt _ HLT.out _ _).mono _); rotate_left; assumption; (repeat (first | exact List.mem_cons_self | apply List.mem_cons_of_mem)); rintro x wn ⟨p, c, rfl, H⟩)
    | (go_at_call 6; (with_reducible refine' (h_addrs (w := w) (B := []) m0 mt _ HMT.out _ _).mono _); rotate_left; assumption; (repeat (first | exact List.mem_cons_self | apply List.mem_cons_of_mem)); rintro x wn ⟨p, c, rfl, H⟩)
    | (go_at_call 5; (with_reducible refine' (h_rof (w := w) (B := []) lt a _ HL10.out HEA.out _ _).mono _); rotate_left; assumption; (repeat (first | exact List.mem_cons_self | apply List.mem_cons_of_mem)); rintro x wn ⟨p, c, rfl, H⟩)
    | (go_at_call 5; (with_reducible refine' (h_rof (w := w) (B := []) mt b _ HM10.out HEB.out _ _).mono _); rotate_left; assumption; (repeat (first | exact List.mem_cons_self | apply List.mem_cons_of_mem)); rintro x wn ⟨p, c, rfl, H⟩)
    | (go_at_call 13; (with_reducible refine' (h_and (w := w) (B := []) a b bo _ _ HSB.out HA1.out HB1.out HEBO.out _ _ _).mono _); rotate_left; assumption; (repeat (first | exact List.mem_cons_self | apply List.mem_cons_of_mem)); rintro x wn ⟨p, c, rfl, H⟩)
    | (go_at_call 14; (with_reducible refine' (h_minus (w := w) (B := []) a b re _ _ HSB.out HA1.out HB1.out HERE.out _ _ _).mono _); rotate_left; assumption; (repeat (first | exact List.mem_cons_self | apply List.mem_cons_of_mem)); rintro x wn ⟨p, c, rfl, H⟩)
    | (go_at_call 15; (with_reducible refine' (h_or (w := w) (B := []) a b o _ _ HEO.out HGAB.out HA1.out HB1.out _ _ _).mono _); rotate_left; assumption; (repeat (first | exact List.mem_cons_self | apply List.mem_cons_of_mem)); rintro x wn ⟨p, c, rfl, H⟩)
    | (go_at_call 15; (with_reducible refine' (h_or (w := w) (B := []) b a o _ _ HEO2.out HGBA.out HB1.out HA1.out _ _ _).mono _); rotate_left; assumption; (repeat (first | exact List.mem_cons_self | apply List.mem_cons_of_mem)); rintro x wn ⟨p, c, rfl, H⟩)
    | (go_at_call 15; (with_reducible refine' (h_or (w := w) (B := []) bo re a _ _ HEO3.out HGBR.out HBO1.out HRE1.out _ _ _).mono _); rotate_left; assumption; (repeat (first | exact List.mem_cons_self | apply List.mem_cons_of_mem)); rintro x wn ⟨p, c, rfl, H⟩)
    | (go_at_call 16; (with_reducible refine' (h_pick (w := w) (B := []) a b true bo _ _ HA1.out HEBO.out _ _ _).mono _); rotate_left; assumption; (repeat (first | exact List.mem_cons_self | apply List.mem_cons_of_mem)); rintro x wn ⟨p, c, rfl, H⟩)
    | (go_at_call 16; (with_reducible refine' (h_pick (w := w) (B := []) a b false re _ _ HA1.out HERE.out _ _ _).mono _); rotate_left; assumption; (repeat (first | exact List.mem_cons_self | apply List.mem_cons_of_mem)); rintro x wn ⟨p, c, rfl, H⟩)
    | (go_at_call 17; (with_reducible refine' (h_ror (w := w) (B := []) a b o _ _ HEO.out HA1.out HB1.out _ _ _).mono _); rotate_left; assumption; (repeat (first | exact List.mem_cons_self | apply List.mem_cons_of_mem)); rintro x wn ⟨p, c, rfl, H⟩)
    | (go_at_call 8; (with_reducible refine' (h_rsame (w := w) (B := []) bo bo true _ _ (decide_eq_true rfl) _ _ _).mono _); rotate_left; assumption; (repeat (first | exact List.mem_cons_self | apply List.mem_cons_of_mem)); rintro x wn ⟨rfl, H⟩)
    | (go_at_call 8; (with_reducible refine' (h_rsame (w := w) (B := []) re re true _ _ (decide_eq_true rfl) _ _ _).mono _); rotate_left; assumption; (repeat (first | exact List.mem_cons_self | apply List.mem_cons_of_mem)); rintro x wn ⟨rfl, H⟩)
    | (go_at_call 8; (with_reducible refine' (h_rsame (w := w) (B := []) o o true _ _ (decide_eq_true rfl) _ _ _).mono _); rotate_left; assumption; (repeat (first | exact List.mem_cons_self | apply List.mem_cons_of_mem)); rintro x wn ⟨rfl, H⟩)
    | (go_at_call 8; (with_reducible refine' (h_rsame (w := w) (B := []) a a true _ _ (decide_eq_true rfl) _ _ _).mono _); rotate_left; assumption; (repeat (first | exact List.mem_cons_self | apply List.mem_cons_of_mem)); rintro x wn ⟨rfl, H⟩)
    | (go_at_call 8; (with_reducible refine' (h_rsame (w := w) (B := []) a b E _ _ HE0.out _ _ _).mono _); rotate_left; assumption; (repeat (first | exact List.mem_cons_self | apply List.mem_cons_of_mem)); rintro x wn ⟨rfl, H⟩)
    | (go_at_call 18; (with_reducible refine' (h_same (w := w) (B := []) a b E _ _ HE0.out _ _ _).mono _); rotate_left; assumption; (repeat (first | exact List.mem_cons_self | apply List.mem_cons_of_mem)); rintro x wn ⟨rfl, H⟩)
    | (go_at_call 19; (with_reducible refine' (h_within (w := w) (B := []) a b Wb _ _ HW1.out HSB.out HB1.out _ _ _).mono _); rotate_left; assumption; (repeat (first | exact List.mem_cons_self | apply List.mem_cons_of_mem)); rintro x wn ⟨rfl, H⟩)
    | (go_at_call 19; (with_reducible refine' (h_within (w := w) (B := []) bo b true _ _ HW2.out HSB.out HB1.out _ _ _).mono _); rotate_left; assumption; (repeat (first | exact List.mem_cons_self | apply List.mem_cons_of_mem)); rintro x wn ⟨rfl, H⟩)
    | (go_at_call 12; (with_reducible refine' (h_lives (w := w) (B := []) _).mono _); rotate_left; assumption; rintro x wn ⟨rfl, H⟩))
  go_ret
  exact ⟨rfl, H.out.1⟩
end Go.Proofs.YtalnfjnfcloonaaDoor
