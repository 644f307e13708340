/-
  The walk of SrcsMakes.
-/
import Derived.Test.YtalnfjnfcloonaaDoorSeM
namespace Go.Proofs.YtalnfjnfcloonaaDoor
open Go.RowKit
set_option linter.unusedVariables false
set_option linter.unusedSimpArgs false
attribute [local go_sem ↓] ld_addr st_addr
attribute [local go_sem] ldr_addr str_addr row?_drewN_eq row?_drew_eq

set_option maxRecDepth 100000 in
set_option maxHeartbeats 8000000 in
theorem makes_any (v : Value) (l0 : List AD) (a : AD) (w : World) (hE : Env w) (ha : Ads w v l0) (hpa : ∀ n c, v = .slice none n c → c = 0) (ho : adOk a) :
    Calls Tryd.prog 3 #[v, .agg (adC a).toArray] w fun x w' => x = .returned (.bool true) ∧ Below w.heap.size w w' := by
  have H0 : Hid (Hold w (w.alloc (.cells (adC a).toArray 25)) [(w.heap.size, a)] [(v, l0)]) := Lib.hid ⟨bbS w _, hE.below (bbS w _), (fun q hq => by
    rw [List.mem_singleton] at hq; subst hq; exact ⟨ObjAt.made w _ _, ho⟩), fun p hp => by
    rw [List.mem_singleton] at hp; subst hp; exact ⟨ha.below (bbS w _), hpa⟩⟩
  obtain ⟨q, cap, ev, _, _⟩ := ha.len
  generalize l0.length = nl at ev
  subst ev
  have HO := Lib.hid ho
  clear ha hpa hE ho
  obtain ⟨lt, hlt⟩ : ∃ s, l0.take 10 = s := ⟨_, rfl⟩
  have HLT := Lib.hid hlt
  have hl10 : lt.length ≤ 10 := by rw [← hlt, List.length_take]; omega
  have HL10 : Hid (lt.length ≤ 1000) := Lib.hid (by omega)
  obtain ⟨y, hey⟩ : ∃ s, ofA lt = s := ⟨_, rfl⟩
  have HEY := Lib.hid hey
  have hly : y.length ≤ 10 := by rw [← hey]; exact Nat.le_trans (ofA_length _) hl10
  have HY10 := Lib.hid hly
  have HY1 : Hid (y.length ≤ 1000) := Lib.hid (by omega)
  have hsy : Sorted ltA y := by rw [← hey]; exact ofS_sorted (ltA_ord goodB) _
  have hgy : ∀ x ∈ y, goodB x = true := by rw [← hey]; exact ofS_good (ltA_ord goodB) _
  have HSY := Lib.hid hsy
  have HGY := Lib.hid hgy
  obtain ⟨E, hE0⟩ : ∃ E, decide (lt = y) = E := ⟨_, rfl⟩
  have HE0 := Lib.hid hE0
  have HGL : Hid (E = true ↔ (Sorted ltA lt ∧ ∀ x ∈ lt, goodB x = true)) := Lib.hid (by
    rw [← hE0, decide_eq_true_iff, ← hey]; exact ofS_eq_iff (ltA_ord goodB) lt)
  obtain ⟨F, hF⟩ : ∃ F, decide (a ∈ y) = F := ⟨_, rfl⟩
  have HF := Lib.hid hF
  clear hlt hl10 hey hly hsy hgy hE0 hF
  have hEE : (E != E) = false := by simp
  go_enter Tryd.func3, Tryd.ntmps3
  go_upto_region 1 with (fail)
  generalize w.alloc (.cells (adC a).toArray 25) = W0 at H0 ⊢
  go_upto_region 6 with (first
    | (go_at_call 6; (with_reducible refine' (h_addrs10 (w := w) (B := [(w.heap.size, a)]) y _ HY10.out _ _).mono _); rotate_left; assumption; (repeat (first | exact List.mem_cons_self | apply List.mem_cons_of_mem)); rintro x wn ⟨p, c, rfl, H⟩)
    | (go_at_call 6; (with_reducible refine' (h_addrs (w := w) (B := [(w.heap.size, a)]) l0 lt _ HLT.out _ _).mono _); rotate_left; assumption; (repeat (first | exact List.mem_cons_self | apply List.mem_cons_of_mem)); rintro x wn ⟨p, c, rfl, H⟩)
    | (go_at_call 5; (with_reducible refine' (h_rof (w := w) (B := [(w.heap.size, a)]) lt y _ HL10.out HEY.out _ _).mono _); rotate_left; assumption; (repeat (first | exact List.mem_cons_self | apply List.mem_cons_of_mem)); rintro x wn ⟨px, cx, rfl, H⟩)
    | (go_at_call 7; (with_reducible refine' (h_of (w := w) (B := [(w.heap.size, a)]) lt y _ HL10.out HEY.out _ _).mono _); rotate_left; assumption; (repeat (first | exact List.mem_cons_self | apply List.mem_cons_of_mem)); rintro x wn ⟨ps, cs, rfl, H⟩)
    | (go_at_call 8; (with_reducible refine' (h_rsame (w := w) (B := [(w.heap.size, a)]) y y true _ _ (decide_eq_true rfl) _ _ _).mono _); rotate_left; assumption; (repeat (first | exact List.mem_cons_self | apply List.mem_cons_of_mem)); rintro x wn ⟨rfl, H⟩)
    | (go_at_call 8; (with_reducible refine' (h_rsame (w := w) (B := [(w.heap.size, a)]) lt y E _ _ HE0.out _ _ _).mono _); rotate_left; assumption; (repeat (first | exact List.mem_cons_self | apply List.mem_cons_of_mem)); rintro x wn ⟨rfl, H⟩)
    | (go_at_call 9; (with_reducible refine' (h_good_t (w := w) (B := [(w.heap.size, a)]) y _ HSY.out HGY.out _ _).mono _); rotate_left; assumption; (repeat (first | exact List.mem_cons_self | apply List.mem_cons_of_mem)); rintro x wn ⟨rfl, H⟩)
    | (go_at_call 9; (with_reducible refine' (h_good (w := w) (B := [(w.heap.size, a)]) lt E _ HGL.out _ _).mono _); rotate_left; assumption; (repeat (first | exact List.mem_cons_self | apply List.mem_cons_of_mem)); rintro x wn ⟨rfl, H⟩))
  have H2 : Hid (Hold w wn [(w.heap.size, a)] [(.slice px y.length cx, y), (.slice ps y.length cs, y)]) := Lib.hid (H.out.sub (fun p hp => by
    simp only [List.mem_cons, List.not_mem_nil, or_false] at hp
    rcases hp with rfl | rfl <;> simp))
  go_wp2_with fail
  go_loopw [7] (fun i wr => ∃ k : Nat, k ≤ y.length ∧ i = .int .i64 k ∧ Hid (Hold w wr [(w.heap.size, a)] [(.slice px y.length cx, y), (.slice ps y.length cs, y)])) (fun i _ => y.length - (intOf i).toNat)
  case atStart => exact ⟨0, by omega, rfl, H2⟩
  case round =>
    obtain ⟨k, hk, rfl, HH⟩ := hrel
    have hly := HY10.out
    by_cases hlk : k < y.length
    · have hk1 : (k : Int) < (y.length : Int) := by omega
      have hd : decide ((k : Int) < (y.length : Int)) = true := decide_eq_true hk1
      have hw1 : IntKind.i64.wrap ((k : Int) + 1) = (k : Int) + 1 := by simp only [IntKind.wrap_i64]; omega
      have hpx : Ads wr (.slice px y.length cx) y := (HH.out.2.2.2 _ List.mem_cons_self).1
      obtain ⟨b, o, cap', e, _, _, hbl, hat⟩ := hpx.parts (fun e => by rw [e] at hlk; exact absurd hlk (by simp))
      simp only [Value.slice.injEq] at e
      obtain ⟨rfl, -, -⟩ := e
      have r1 := hat k hlk
      have HHS := Lib.hid (h_has (w := w) (B := [(w.heap.size, a)]) y y[k] true (.slice ps y.length cs) (decide_eq_true (List.getElem_mem hlk)) HSY.out HY1.out (hpx.ok _ (List.getElem_mem hlk)) HH (List.mem_cons_of_mem _ List.mem_cons_self))
      generalize y[k] = x at r1 HHS
      clear hat hpx hbl
      go_wp2_with (go_at_call 10; (with_reducible refine HHS.out.mono ?_); rintro x wn ⟨rfl, H9⟩)
      go_roundw
      case rel => exact ⟨k + 1, by omega, by go_num, H9⟩
      case measure => simp [intOf]; omega
    · have hd : decide ((k : Int) < (y.length : Int)) = false := decide_eq_false (by omega)
      have hk1 : ¬ (k : Int) < (y.length : Int) := by omega
      obtain ⟨L2, hL2⟩ : ∃ L2, L2 = [((.slice px y.length cx, y) : Value × List AD), (.slice ps y.length cs, y)] := ⟨_, rfl⟩
      have HK : Hid (∀ W, Hold w W [(w.heap.size, a)] L2 → row? W w.heap.size 0 17 = some (adC a) ∧ Hold w W [(w.heap.size, a)] L2) := Lib.hid fun W h => ⟨h.row List.mem_cons_self, h⟩
      have HMX : Hid ((.slice px y.length cx, y) ∈ L2) := Lib.hid (by rw [hL2]; exact List.mem_cons_self)
      have HH2 : Hid (Hold w wr [(w.heap.size, a)] L2) := Lib.hid (by rw [hL2]; exact HH.out)
      have HAD : Hid (∀ W, Hold w W [(w.heap.size, a)] L2 → Calls Tryd.prog 6 #[.slice px y.length cx, .int .i64 10] W fun x w' => ∃ p c, x = .returned (.slice p y.length c) ∧ Hid (Hold w w' [(w.heap.size, a)] ((.slice p y.length c, y) :: L2))) := Lib.hid fun W h => h_addrs10 y _ HY10.out (Lib.hid h) HMX.out
      have HHA : Hid (∀ p c W, Hold w W [(w.heap.size, a)] ((.slice p y.length c, y) :: L2) → Calls Tryd.prog 10 #[.slice p y.length c, .agg (adC a).toArray] W fun x w' => x = .returned (.bool F) ∧ Hid (Hold w w' [(w.heap.size, a)] ((.slice p y.length c, y) :: L2))) := Lib.hid fun p c W h => h_has y a F _ HF.out HSY.out HY1.out HO.out (Lib.hid h) List.mem_cons_self
      have HRH : Hid (∀ W, Hold w W [(w.heap.size, a)] L2 → Calls Tryd.prog 11 #[.slice px y.length cx, .agg (adC a).toArray] W fun x w' => x = .returned (.bool F) ∧ Below W.heap.size W w') := Lib.hid fun W h => h_rhas y a F _ HF.out HO.out (Lib.hid h) HMX.out
      have HLV : Hid (∀ W, Hold w W [(w.heap.size, a)] L2 → Calls Tryd.prog 12 #[] W fun x w' => x = .returned (.bool true) ∧ Hid (Hold w w' [(w.heap.size, a)] L2)) := Lib.hid fun W h => h_lives (Lib.hid h)
      have HT : Hid (∀ W p, Hold w W [(w.heap.size, a)] (p :: L2) → Hold w W [(w.heap.size, a)] L2) := Lib.hid fun W p h => h.sub (fun q hq => List.mem_cons_of_mem _ hq)
      have hFF : (F == F) = true := by simp
      generalize adC a = A at HK HHA HRH
      clear hL2 HMX HH
      go_upto_region 10 with (fail)
      go_region_held3 (fun W => row? W w.heap.size 0 17 = some A ∧ Hold w W [(w.heap.size, a)] L2) (first | assumption | exact HK.out _ HH2.out | exact HK.out _ (HH2.out.below (bdrewN (Below.refl _ _) 1))) (first
        | (go_at_call 6; (with_reducible refine (HAD.out _ (And.right (by assumption))).mono ?_); rintro x w3 ⟨p3, c3, rfl, H3⟩; have hk := HK.out _ (HT.out _ _ H3.out))
        | (go_at_call 10; (with_reducible refine (HHA.out _ _ _ H4.out).mono ?_); rintro x w5 ⟨rfl, H5⟩; have hk := HK.out _ (HT.out _ _ H5.out))
        | (go_at_call 10; (with_reducible refine (HHA.out _ _ _ H3.out).mono ?_); rintro x w5 ⟨rfl, H5⟩; have hk := HK.out _ (HT.out _ _ H5.out))
        | (go_at_call 11; (with_reducible refine (HRH.out _ (And.right (by assumption))).mono ?_); rintro x w4 ⟨rfl, hb⟩; (first | (have H4 := Lib.hid (H3.out.below hb)) | skip); have hk := HK.out _ (Hold.below (And.right (by assumption)) hb); clear hb)
        | (go_at_call 12; (with_reducible refine (HLV.out _ (And.right (by assumption))).mono ?_); rintro x w6 ⟨rfl, H6⟩; have hk := HK.out _ H6.out))
      have HZ := Lib.hid hk.2.1
      clear hk
      go_wp2
      go_ret
      exact ⟨rfl, HZ.out⟩
end Go.Proofs.YtalnfjnfcloonaaDoor
