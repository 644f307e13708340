/- A part of the proof. -/
import Derived.Test.YtlbdehegknehiaaGreatMg00
import Derived.Test.YtlbdehegknehiaaGreatMg37
import Derived.Test.YtlbdehegknehiaaGreatIgD
namespace Go.Proofs.YtlbdehegknehiaaGreat
set_option maxRecDepth 100000
set_option maxHeartbeats 4000000
open Go.RowKit
set_option linter.unusedVariables false
set_option linter.unusedSimpArgs false
attribute [local go_sem ↓] ld_addr st_addr bld_addr ld_rec st_rec ld_tk st_tk bld_tk bld_shp adsLit_eq
attribute [local go_sem] ldr_addr str_addr str_addr_at ldr_tk str_tk bldr_shp ldr_rec str_rec row?_drew_eq
def kinds8 (t : TK) : Prop := t.ver = 1 ∧ t.kind = 1 ∨ t.ver = 2 ∧ t.kind = 1 ∨ t.ver = 1 ∧ t.kind = 2 ∨ t.ver = 2 ∧ t.kind = 2 ∨ t.ver = 2 ∧ t.kind = 3 ∨ t.ver = 3 ∧ t.kind = 1 ∨ t.ver = 3 ∧ t.kind = 2
theorem good8_kinds {t : TK} (h : good8 t = true) : kinds8 t := by
  by_cases hn : ¬ (t.ver = 1 ∧ t.kind = 1) ∧ ¬ (t.ver = 2 ∧ t.kind = 1) ∧ ¬ (t.ver = 1 ∧ t.kind = 2) ∧ ¬ (t.ver = 2 ∧ t.kind = 2) ∧ ¬ (t.ver = 2 ∧ t.kind = 3) ∧ ¬ (t.ver = 3 ∧ t.kind = 1) ∧ ¬ (t.ver = 3 ∧ t.kind = 2)
  · rw [g8_no t.v6 t.ver t.kind hn t.resp t.g t.quiet t.rob t.every t.src t.rcs] at h
    cases h
  · unfold kinds8; omega
theorem typ_11 (t : TK) (us ur : Value) (w : World) (ho : adOk t.g) (hv : t.ver = 1) (hk : t.kind = 1) : Calls Tryz.prog 154 #[.agg (tkC t us ur).toArray] w fun x w' => x = .returned (.int .i64 (kindT t : Int)) ∧ Below w.heap.size w w' := by
  have H0 := zh (TB.made w t us ur ho)
  have HC : Hid (∀ W, TB w W t us ur → W.cell? ⟨w.heap.size, 1, none⟩ = some (.int .i64 1) ∧ W.cell? ⟨w.heap.size, 2, none⟩ = some (.int .i64 1)) := zh fun W h => by
    have h1 := h.1.ver; have h2 := h.1.kind
    rw [hv] at h1; rw [hk] at h2
    exact ⟨h1, h2⟩
  have HV := zh (show kindT t = 17 by unfold kindT; rw [hv, hk]; rfl)
  clear hv hk ho
  have q12 : ∀ w0, (Op.equalIn 10000 135 (.agg #[.int .i64 1, .int .i64 1]) (.agg #[.int .i64 1, .int .i64 2])).run Tryz.prog w0 = .ok false w0 := fun w0 => by rw [eq_shp]; rfl
  have q22 : ∀ w0, (Op.equalIn 10000 135 (.agg #[.int .i64 1, .int .i64 1]) (.agg #[.int .i64 2, .int .i64 2])).run Tryz.prog w0 = .ok false w0 := fun w0 => by rw [eq_shp]; rfl
  have q23 : ∀ w0, (Op.equalIn 10000 135 (.agg #[.int .i64 1, .int .i64 1]) (.agg #[.int .i64 2, .int .i64 3])).run Tryz.prog w0 = .ok false w0 := fun w0 => by rw [eq_shp]; rfl
  have q32 : ∀ w0, (Op.equalIn 10000 135 (.agg #[.int .i64 1, .int .i64 1]) (.agg #[.int .i64 3, .int .i64 2])).run Tryz.prog w0 = .ok false w0 := fun w0 => by rw [eq_shp]; rfl
  go_enter Tryz.func154, Tryz.ntmps154
  go_upto_region 1 with (fail)
  generalize w.alloc (.cells (tkC t us ur).toArray 28) = W at H0 ⊢
  obtain ⟨c1, c2⟩ := HC.out _ H0.out
  go_wp2
  go_ret
  exact ⟨ret_int (by rw [HV.out]; rfl), H0.out.2⟩
theorem typ_21 (t : TK) (us ur : Value) (w : World) (ho : adOk t.g) (hv : t.ver = 2) (hk : t.kind = 1) : Calls Tryz.prog 154 #[.agg (tkC t us ur).toArray] w fun x w' => x = .returned (.int .i64 (kindT t : Int)) ∧ Below w.heap.size w w' := by
  have H0 := zh (TB.made w t us ur ho)
  have HC : Hid (∀ W, TB w W t us ur → W.cell? ⟨w.heap.size, 1, none⟩ = some (.int .i64 2) ∧ W.cell? ⟨w.heap.size, 2, none⟩ = some (.int .i64 1)) := zh fun W h => by
    have h1 := h.1.ver; have h2 := h.1.kind
    rw [hv] at h1; rw [hk] at h2
    exact ⟨h1, h2⟩
  have HV := zh (show kindT t = 17 by unfold kindT; rw [hv, hk]; rfl)
  clear hv hk ho
  have q12 : ∀ w0, (Op.equalIn 10000 135 (.agg #[.int .i64 2, .int .i64 1]) (.agg #[.int .i64 1, .int .i64 2])).run Tryz.prog w0 = .ok false w0 := fun w0 => by rw [eq_shp]; rfl
  have q22 : ∀ w0, (Op.equalIn 10000 135 (.agg #[.int .i64 2, .int .i64 1]) (.agg #[.int .i64 2, .int .i64 2])).run Tryz.prog w0 = .ok false w0 := fun w0 => by rw [eq_shp]; rfl
  have q23 : ∀ w0, (Op.equalIn 10000 135 (.agg #[.int .i64 2, .int .i64 1]) (.agg #[.int .i64 2, .int .i64 3])).run Tryz.prog w0 = .ok false w0 := fun w0 => by rw [eq_shp]; rfl
  have q32 : ∀ w0, (Op.equalIn 10000 135 (.agg #[.int .i64 2, .int .i64 1]) (.agg #[.int .i64 3, .int .i64 2])).run Tryz.prog w0 = .ok false w0 := fun w0 => by rw [eq_shp]; rfl
  go_enter Tryz.func154, Tryz.ntmps154
  go_upto_region 1 with (fail)
  generalize w.alloc (.cells (tkC t us ur).toArray 28) = W at H0 ⊢
  obtain ⟨c1, c2⟩ := HC.out _ H0.out
  go_wp2
  go_ret
  exact ⟨ret_int (by rw [HV.out]; rfl), H0.out.2⟩
theorem typ_12 (t : TK) (us ur : Value) (w : World) (ho : adOk t.g) (hv : t.ver = 1) (hk : t.kind = 2) : Calls Tryz.prog 154 #[.agg (tkC t us ur).toArray] w fun x w' => x = .returned (.int .i64 (kindT t : Int)) ∧ Below w.heap.size w w' := by
  have H0 := zh (TB.made w t us ur ho)
  have HC : Hid (∀ W, TB w W t us ur → W.cell? ⟨w.heap.size, 1, none⟩ = some (.int .i64 1) ∧ W.cell? ⟨w.heap.size, 2, none⟩ = some (.int .i64 2)) := zh fun W h => by
    have h1 := h.1.ver; have h2 := h.1.kind
    rw [hv] at h1; rw [hk] at h2
    exact ⟨h1, h2⟩
  have HV := zh (show kindT t = 18 by unfold kindT; rw [hv, hk]; rfl)
  clear hv hk ho
  have q12 : ∀ w0, (Op.equalIn 10000 135 (.agg #[.int .i64 1, .int .i64 2]) (.agg #[.int .i64 1, .int .i64 2])).run Tryz.prog w0 = .ok true w0 := fun w0 => by rw [eq_shp]; rfl
  have q22 : ∀ w0, (Op.equalIn 10000 135 (.agg #[.int .i64 1, .int .i64 2]) (.agg #[.int .i64 2, .int .i64 2])).run Tryz.prog w0 = .ok false w0 := fun w0 => by rw [eq_shp]; rfl
  have q23 : ∀ w0, (Op.equalIn 10000 135 (.agg #[.int .i64 1, .int .i64 2]) (.agg #[.int .i64 2, .int .i64 3])).run Tryz.prog w0 = .ok false w0 := fun w0 => by rw [eq_shp]; rfl
  have q32 : ∀ w0, (Op.equalIn 10000 135 (.agg #[.int .i64 1, .int .i64 2]) (.agg #[.int .i64 3, .int .i64 2])).run Tryz.prog w0 = .ok false w0 := fun w0 => by rw [eq_shp]; rfl
  go_enter Tryz.func154, Tryz.ntmps154
  go_upto_region 1 with (fail)
  generalize w.alloc (.cells (tkC t us ur).toArray 28) = W at H0 ⊢
  obtain ⟨c1, c2⟩ := HC.out _ H0.out
  go_wp2
  go_ret
  exact ⟨ret_int (by rw [HV.out]; rfl), H0.out.2⟩
theorem typ_22 (t : TK) (us ur : Value) (w : World) (ho : adOk t.g) (hv : t.ver = 2) (hk : t.kind = 2) : Calls Tryz.prog 154 #[.agg (tkC t us ur).toArray] w fun x w' => x = .returned (.int .i64 (kindT t : Int)) ∧ Below w.heap.size w w' := by
  have H0 := zh (TB.made w t us ur ho)
  have HC : Hid (∀ W, TB w W t us ur → W.cell? ⟨w.heap.size, 1, none⟩ = some (.int .i64 2) ∧ W.cell? ⟨w.heap.size, 2, none⟩ = some (.int .i64 2)) := zh fun W h => by
    have h1 := h.1.ver; have h2 := h.1.kind
    rw [hv] at h1; rw [hk] at h2
    exact ⟨h1, h2⟩
  have HV := zh (show kindT t = 22 by unfold kindT; rw [hv, hk]; rfl)
  clear hv hk ho
  have q12 : ∀ w0, (Op.equalIn 10000 135 (.agg #[.int .i64 2, .int .i64 2]) (.agg #[.int .i64 1, .int .i64 2])).run Tryz.prog w0 = .ok false w0 := fun w0 => by rw [eq_shp]; rfl
  have q22 : ∀ w0, (Op.equalIn 10000 135 (.agg #[.int .i64 2, .int .i64 2]) (.agg #[.int .i64 2, .int .i64 2])).run Tryz.prog w0 = .ok true w0 := fun w0 => by rw [eq_shp]; rfl
  have q23 : ∀ w0, (Op.equalIn 10000 135 (.agg #[.int .i64 2, .int .i64 2]) (.agg #[.int .i64 2, .int .i64 3])).run Tryz.prog w0 = .ok false w0 := fun w0 => by rw [eq_shp]; rfl
  have q32 : ∀ w0, (Op.equalIn 10000 135 (.agg #[.int .i64 2, .int .i64 2]) (.agg #[.int .i64 3, .int .i64 2])).run Tryz.prog w0 = .ok false w0 := fun w0 => by rw [eq_shp]; rfl
  go_enter Tryz.func154, Tryz.ntmps154
  go_upto_region 1 with (fail)
  generalize w.alloc (.cells (tkC t us ur).toArray 28) = W at H0 ⊢
  obtain ⟨c1, c2⟩ := HC.out _ H0.out
  go_wp2
  go_ret
  exact ⟨ret_int (by rw [HV.out]; rfl), H0.out.2⟩
theorem typ_23 (t : TK) (us ur : Value) (w : World) (ho : adOk t.g) (hv : t.ver = 2) (hk : t.kind = 3) : Calls Tryz.prog 154 #[.agg (tkC t us ur).toArray] w fun x w' => x = .returned (.int .i64 (kindT t : Int)) ∧ Below w.heap.size w w' := by
  have H0 := zh (TB.made w t us ur ho)
  have HC : Hid (∀ W, TB w W t us ur → W.cell? ⟨w.heap.size, 1, none⟩ = some (.int .i64 2) ∧ W.cell? ⟨w.heap.size, 2, none⟩ = some (.int .i64 3)) := zh fun W h => by
    have h1 := h.1.ver; have h2 := h.1.kind
    rw [hv] at h1; rw [hk] at h2
    exact ⟨h1, h2⟩
  have HV := zh (show kindT t = 23 by unfold kindT; rw [hv, hk]; rfl)
  clear hv hk ho
  have q12 : ∀ w0, (Op.equalIn 10000 135 (.agg #[.int .i64 2, .int .i64 3]) (.agg #[.int .i64 1, .int .i64 2])).run Tryz.prog w0 = .ok false w0 := fun w0 => by rw [eq_shp]; rfl
  have q22 : ∀ w0, (Op.equalIn 10000 135 (.agg #[.int .i64 2, .int .i64 3]) (.agg #[.int .i64 2, .int .i64 2])).run Tryz.prog w0 = .ok false w0 := fun w0 => by rw [eq_shp]; rfl
  have q23 : ∀ w0, (Op.equalIn 10000 135 (.agg #[.int .i64 2, .int .i64 3]) (.agg #[.int .i64 2, .int .i64 3])).run Tryz.prog w0 = .ok true w0 := fun w0 => by rw [eq_shp]; rfl
  have q32 : ∀ w0, (Op.equalIn 10000 135 (.agg #[.int .i64 2, .int .i64 3]) (.agg #[.int .i64 3, .int .i64 2])).run Tryz.prog w0 = .ok false w0 := fun w0 => by rw [eq_shp]; rfl
  go_enter Tryz.func154, Tryz.ntmps154
  go_upto_region 1 with (fail)
  generalize w.alloc (.cells (tkC t us ur).toArray 28) = W at H0 ⊢
  obtain ⟨c1, c2⟩ := HC.out _ H0.out
  go_wp2
  go_ret
  exact ⟨ret_int (by rw [HV.out]; rfl), H0.out.2⟩
theorem typ_31 (t : TK) (us ur : Value) (w : World) (ho : adOk t.g) (hv : t.ver = 3) (hk : t.kind = 1) : Calls Tryz.prog 154 #[.agg (tkC t us ur).toArray] w fun x w' => x = .returned (.int .i64 (kindT t : Int)) ∧ Below w.heap.size w w' := by
  have H0 := zh (TB.made w t us ur ho)
  have HC : Hid (∀ W, TB w W t us ur → W.cell? ⟨w.heap.size, 1, none⟩ = some (.int .i64 3) ∧ W.cell? ⟨w.heap.size, 2, none⟩ = some (.int .i64 1)) := zh fun W h => by
    have h1 := h.1.ver; have h2 := h.1.kind
    rw [hv] at h1; rw [hk] at h2
    exact ⟨h1, h2⟩
  have HV := zh (show kindT t = 17 by unfold kindT; rw [hv, hk]; rfl)
  clear hv hk ho
  have q12 : ∀ w0, (Op.equalIn 10000 135 (.agg #[.int .i64 3, .int .i64 1]) (.agg #[.int .i64 1, .int .i64 2])).run Tryz.prog w0 = .ok false w0 := fun w0 => by rw [eq_shp]; rfl
  have q22 : ∀ w0, (Op.equalIn 10000 135 (.agg #[.int .i64 3, .int .i64 1]) (.agg #[.int .i64 2, .int .i64 2])).run Tryz.prog w0 = .ok false w0 := fun w0 => by rw [eq_shp]; rfl
  have q23 : ∀ w0, (Op.equalIn 10000 135 (.agg #[.int .i64 3, .int .i64 1]) (.agg #[.int .i64 2, .int .i64 3])).run Tryz.prog w0 = .ok false w0 := fun w0 => by rw [eq_shp]; rfl
  have q32 : ∀ w0, (Op.equalIn 10000 135 (.agg #[.int .i64 3, .int .i64 1]) (.agg #[.int .i64 3, .int .i64 2])).run Tryz.prog w0 = .ok false w0 := fun w0 => by rw [eq_shp]; rfl
  go_enter Tryz.func154, Tryz.ntmps154
  go_upto_region 1 with (fail)
  generalize w.alloc (.cells (tkC t us ur).toArray 28) = W at H0 ⊢
  obtain ⟨c1, c2⟩ := HC.out _ H0.out
  go_wp2
  go_ret
  exact ⟨ret_int (by rw [HV.out]; rfl), H0.out.2⟩
theorem typ_32 (t : TK) (us ur : Value) (w : World) (ho : adOk t.g) (hv : t.ver = 3) (hk : t.kind = 2) : Calls Tryz.prog 154 #[.agg (tkC t us ur).toArray] w fun x w' => x = .returned (.int .i64 (kindT t : Int)) ∧ Below w.heap.size w w' := by
  have H0 := zh (TB.made w t us ur ho)
  have HC : Hid (∀ W, TB w W t us ur → W.cell? ⟨w.heap.size, 1, none⟩ = some (.int .i64 3) ∧ W.cell? ⟨w.heap.size, 2, none⟩ = some (.int .i64 2)) := zh fun W h => by
    have h1 := h.1.ver; have h2 := h.1.kind
    rw [hv] at h1; rw [hk] at h2
    exact ⟨h1, h2⟩
  have HV := zh (show kindT t = 34 by unfold kindT; rw [hv, hk]; rfl)
  clear hv hk ho
  have q12 : ∀ w0, (Op.equalIn 10000 135 (.agg #[.int .i64 3, .int .i64 2]) (.agg #[.int .i64 1, .int .i64 2])).run Tryz.prog w0 = .ok false w0 := fun w0 => by rw [eq_shp]; rfl
  have q22 : ∀ w0, (Op.equalIn 10000 135 (.agg #[.int .i64 3, .int .i64 2]) (.agg #[.int .i64 2, .int .i64 2])).run Tryz.prog w0 = .ok false w0 := fun w0 => by rw [eq_shp]; rfl
  have q23 : ∀ w0, (Op.equalIn 10000 135 (.agg #[.int .i64 3, .int .i64 2]) (.agg #[.int .i64 2, .int .i64 3])).run Tryz.prog w0 = .ok false w0 := fun w0 => by rw [eq_shp]; rfl
  have q32 : ∀ w0, (Op.equalIn 10000 135 (.agg #[.int .i64 3, .int .i64 2]) (.agg #[.int .i64 3, .int .i64 2])).run Tryz.prog w0 = .ok true w0 := fun w0 => by rw [eq_shp]; rfl
  go_enter Tryz.func154, Tryz.ntmps154
  go_upto_region 1 with (fail)
  generalize w.alloc (.cells (tkC t us ur).toArray 28) = W at H0 ⊢
  obtain ⟨c1, c2⟩ := HC.out _ H0.out
  go_wp2
  go_ret
  exact ⟨ret_int (by rw [HV.out]; rfl), H0.out.2⟩
theorem typ_any (t : TK) (us ur : Value) (w : World) (ho : adOk t.g) (h : kinds8 t) : Calls Tryz.prog 154 #[.agg (tkC t us ur).toArray] w fun x w' => x = .returned (.int .i64 (kindT t : Int)) ∧ Below w.heap.size w w' := by
  rcases h with ⟨h1, h2⟩ | ⟨h1, h2⟩ | ⟨h1, h2⟩ | ⟨h1, h2⟩ | ⟨h1, h2⟩ | ⟨h1, h2⟩ | ⟨h1, h2⟩
  · exact typ_11 t us ur w ho h1 h2
  · exact typ_21 t us ur w ho h1 h2
  · exact typ_12 t us ur w ho h1 h2
  · exact typ_22 t us ur w ho h1 h2
  · exact typ_23 t us ur w ho h1 h2
  · exact typ_31 t us ur w ho h1 h2
  · exact typ_32 t us ur w ho h1 h2
theorem rsp_any (t : TK) (us ur : Value) (w : World) (ho : adOk t.g) (h0 : 0 ≤ t.resp) (hz : t.ver = 3 → t.kind ≠ 1 → t.resp = 0) : Calls Tryz.prog 155 #[.agg (tkC t us ur).toArray] w fun x w' => x = .returned (.int .i64 (secT t : Int)) ∧ Below w.heap.size w w' := by
  have H0 := zh (TB.made w t us ur ho)
  have HC : Hid (∀ W, TB w W t us ur → W.cell? ⟨w.heap.size, 1, none⟩ = some (.int .i64 t.ver) ∧ W.cell? ⟨w.heap.size, 3, none⟩ = some (.int .i64 t.resp)) := zh fun W h => ⟨h.1.ver, h.1.resp⟩
  have H8 := zh (fun W => code8_any t.resp W)
  by_cases hv : t.ver = 3
  · have HV : Hid (secT t = codeN t.resp 16 255) := zh (by
      unfold secT
      by_cases hk : t.kind = 1
      · rw [if_pos ⟨hk, hv⟩]
      · rw [if_neg (fun h => hk h.1), hz hv hk]; decide +kernel)
    have e1 : (t.ver == 3) = true := by simp [hv]
    clear hz h0
    go_enter Tryz.func155, Tryz.ntmps155
    go_upto_region 1 with (fail)
    generalize w.alloc (.cells (tkC t us ur).toArray 28) = W at H0 ⊢
    obtain ⟨c1, c2⟩ := HC.out _ H0.out
    go_wp2_with (go_at_call 180; (with_reducible refine (H8.out _).mono ?_); rintro x w1 ⟨rfl, hb1⟩; have H1 := zh (H0.out.keep hb1); clear hb1)
    go_ret
    exact ⟨ret_int (by rw [HV.out]), H1.out.2⟩
  · have HV : Hid ((secT t : Int) = t.resp) := zh (by
      unfold secT
      rw [if_neg (fun h => hv h.2)]
      omega)
    have e1 : (t.ver == 3) = false := by simp [hv]
    clear hz h0
    go_enter Tryz.func155, Tryz.ntmps155
    go_upto_region 1 with (fail)
    generalize w.alloc (.cells (tkC t us ur).toArray 28) = W at H0 ⊢
    obtain ⟨c1, c2⟩ := HC.out _ H0.out
    go_wp2
    go_ret
    exact ⟨ret_int (by rw [HV.out]), H0.out.2⟩
theorem set8_any (r : Nat) (h : r < 8) (w : World) : Calls Tryz.prog 160 #[.int .u64 r, .int .i64 3, .int .i64 1, .int .u64 1] w fun e w' => e = .returned (.int .u64 ((r + 8 : Nat) : Int)) ∧ w = w' := by
  have h1 : ∀ r, r < 8 → setN r 3 1 1 = r + 8 := by decide +kernel
  have := set_any r (by omega) 3 1 1 (by omega) w
  rw [show clampN 3 64 = 3 from rfl, show clampN 1 64 = 1 from rfl, h1 r h] at this
  exact this
structure QW (base b : Nat) (w W : World) (m : Nat) (t : TK) (us ur : Value) (l : List UInt8) : Prop where
  wb : WB base W b l
  wk : WK base b w W
  tk : TkAt W m t us ur
  ne : m ≠ b
theorem QW.step {base b m : Nat} {w W W' : World} {t : TK} {us ur : Value} {l l' : List UInt8} (h : QW base b w W m t us ur l) (h1 : WB base W' b l') (k : WK base b W W') : QW base b w W' m t us ur l' :=
  ⟨h1, h.wk.trans k, ⟨ObjAt.wk h.tk.1 k h.ne (by decide), h.tk.2⟩, h.ne⟩
theorem QW.below {base b m : Nat} {w W W' : World} {t : TK} {us ur : Value} {l : List UInt8} (h : QW base b w W m t us ur l) (k : Below W.heap.size W W') : QW base b w W' m t us ur l :=
  ⟨h.wb.below k, h.wk.trans (WK.of k), h.tk.below k, h.ne⟩
theorem QW.made {base b : Nat} {w : World} (t : TK) (us ur : Value) (ho : adOk t.g) {l : List UInt8} (h : WB base w b l) : QW base b w (w.alloc (.cells (tkC t us ur).toArray 28)) w.heap.size t us ur l :=
  have hk := (Below.refl w.heap.size w).alloc (Nat.le_refl _) (.cells (tkC t us ur).toArray 28)
  ⟨h.below hk, WK.of hk, TkAt.made w t us ur ho, by have := h.lt; omega⟩
theorem wquery_f (base b : Nat) (l : List UInt8) (t : TK) (us ur : Value) (w0 w : World) (ho : t.ok) (h : WB base w b l) (hs : Ads w0 us t.src) (hk0 : Below w0.heap.size w0 w) (hb1 : w0.heap.size ≤ base) (hb2 : w0.heap.size ≤ b) (hl : l.length ≤ 10000000) (hbase : base ≤ w.heap.size)
    (hr0 : 0 ≤ t.rob) (hr1 : t.rob ≤ 7) (hn : t.src.length ≤ 64) (hq : t.quiet = false) :
    Calls Tryz.prog 156 #[.pointer (some ⟨b, 0, none⟩), .agg (tkC t us ur).toArray] w fun x w' => x = .returned (.tuple #[]) ∧ WB base w' b (l ++ adB t.g ++ putL (flagT t) 1 ++ putL (codeN t.every 16 255) 1 ++ putL t.src.length 2 ++ listL t.src) ∧ WK base b w w' := by
  have H0 := zh (QW.made t us ur ho.1 h)
  have HSA : Hid (∀ W, WK base b w W → AdsK base b W us t.src) := zh fun W hW => (AdsK.old hs hk0 hb1 hb2).wk hW
  obtain ⟨pu, cu, rfl, hu1, hu2⟩ := hs.len
  obtain ⟨r, hr⟩ := Int.eq_ofNat_of_zero_le hr0
  have hr8 : r < 8 := by omega
  have HFL := zh (show flagT t = r by unfold flagT; rw [hq, hr]; rfl)
  have HC : Hid (∀ W l, QW base b w W w.heap.size t (.slice pu t.src.length cu) ur l → W.cell? ⟨w.heap.size, 22, none⟩ = some (.int .i64 r) ∧ W.cell? ⟨w.heap.size, 21, none⟩ = some (.bool false) ∧ row? W w.heap.size 4 17 = some (adC t.g) ∧ W.cell? ⟨w.heap.size, 23, none⟩ = some (.int .i64 t.every) ∧ W.cell? ⟨w.heap.size, 24, none⟩ = some (.slice pu t.src.length cu) ∧ base ≤ W.heap.size) := zh fun W l h => by
    have h1 := h.tk.rob; have h2 := h.tk.quiet
    rw [hr] at h1; rw [hq] at h2
    exact ⟨h1, h2, h.tk.rg, h.tk.every, h.tk.us, by have := h.wk.size; omega⟩
  have HL := zh hl
  have HLG := zh (adB_le ho.1)
  have HLS := zh (listL_le (l := t.src) ho.2.1)
  have hce := codeN_le t.every 16 255
  have H8 := zh (fun W => code8_any t.every W)
  have HSET := zh (fun W => set8_any r hr8 W)
  have hlit := adsLit_run t.g ho.1
  have HLIT : Hid (∀ W l, QW base b w W w.heap.size t (.slice pu t.src.length cu) ur l → l.length ≤ 100000000 → Calls Tryz.prog 158 #[.pointer (some ⟨b, 0, none⟩), .slice (some ⟨W.heap.size, 0, none⟩) 1 1] (W.alloc (.cells (adC t.g).toArray 24)) fun x w' => x = .returned (.tuple #[]) ∧ QW base b w w' w.heap.size t (.slice pu t.src.length cu) ur (l ++ adB t.g)) := zh fun W l h hl => by
    have hk := (Below.refl W.heap.size W).alloc (Nat.le_refl _) (.cells (adC t.g).toArray 24)
    have h' := h.below hk
    refine (waddrs_any base b l _ [t.g] _ h'.wb (AdsK.lit ho.1 h.wb.lt) (by simp) hl (by have := h'.wk.size; omega)).mono ?_
    rintro x w' ⟨e, h1, h2⟩
    exact ⟨e, by have := h'.step h1 h2; simpa [listL] using this⟩
  have HADR : Hid (∀ W l, QW base b w W w.heap.size t (.slice pu t.src.length cu) ur l → l.length ≤ 100000000 → Calls Tryz.prog 158 #[.pointer (some ⟨b, 0, none⟩), .slice pu t.src.length cu] W fun x w' => x = .returned (.tuple #[]) ∧ QW base b w w' w.heap.size t (.slice pu t.src.length cu) ur (l ++ listL t.src)) := zh fun W l h hl => by
    refine (waddrs_any base b l _ t.src _ h.wb (HSA.out W h.wk) (by omega) hl (by have := h.wk.size; omega)).mono ?_
    rintro x w' ⟨e, h1, h2⟩
    exact ⟨e, h.step h1 h2⟩
  obtain ⟨n, hnn⟩ : ∃ n, n = t.src.length := ⟨_, rfl⟩
  obtain ⟨f, hf⟩ : ∃ f, f = flagT t := ⟨_, rfl⟩
  have hf8 : f < 16 := by rw [hf, HFL.out]; omega
  rw [← hf]
  have HN1 : Hid (∀ l W, WB base W b l → l.length ≤ 100000000 → base ≤ W.heap.size → Calls Tryz.prog 153 #[.pointer (some ⟨b, 0, none⟩), .int .i64 r, .int .i64 1] W fun x w' => x = .returned (.tuple #[]) ∧ WB base w' b (l ++ putL f 1) ∧ WK base b W w') := zh fun l W h1 h2 h3 => by have := wnum_any base b l f 1 W (by omega) (by omega) h1 h2 h3; rw [hf, HFL.out] at this ⊢; exact this
  have HN2 : Hid (∀ l W, WB base W b l → l.length ≤ 100000000 → base ≤ W.heap.size → Calls Tryz.prog 153 #[.pointer (some ⟨b, 0, none⟩), .int .i64 (codeN t.every 16 255 : Nat), .int .i64 1] W fun x w' => x = .returned (.tuple #[]) ∧ WB base w' b (l ++ putL (codeN t.every 16 255) 1) ∧ WK base b W w') := zh fun l W h1 h2 h3 => wnum_any base b l (codeN t.every 16 255) 1 W (by omega) (by omega) h1 h2 h3
  have HN3 : Hid (∀ l W, WB base W b l → l.length ≤ 100000000 → base ≤ W.heap.size → Calls Tryz.prog 153 #[.pointer (some ⟨b, 0, none⟩), .int .i64 (t.src.length : Nat), .int .i64 2] W fun x w' => x = .returned (.tuple #[]) ∧ WB base w' b (l ++ putL t.src.length 2) ∧ WK base b W w') := zh fun l W h1 h2 h3 => wnum_any base b l t.src.length 2 W (by omega) (by omega) h1 h2 h3
  generalize codeN t.every 16 255 = ce at *
  have hw1 : IntKind.u64.wrap (r : Int) = (r : Int) := by simp only [IntKind.wrap_u64]; omega
  have hw2 : IntKind.i64.wrap ((r : Int) : Int) = ((r : Int) : Int) := by simp only [IntKind.wrap_i64]; omega
  clear hs hk0 h ho hl hbase
  go_enter Tryz.func156, Tryz.ntmps156
  go_upto_region 1 with (fail)
  generalize w.alloc (.cells (tkC t _ _).toArray 28) = W at H0 ⊢
  obtain ⟨c3, c4, c5, c6, c7, c8⟩ := HC.out _ _ H0.out
  go_upto_region 4 with (go_at_call 160; (with_reducible refine (HSET.out _).mono ?_); rintro x w1 ⟨rfl, rfl⟩)
  go_upto_region 5 with (go_at_call 158; (with_reducible refine (HLIT.out _ _ H0.out (by have := HLG.out; have := HL.out; (try simp only [List.length_append, putL_length]); omega)).mono ?_); rintro x w2 ⟨rfl, h9⟩; have H1 := zh h9; clear h9; clear c3 c4 c5 c6 c7 c8; obtain ⟨c3, c4, c5, c6, c7, c8⟩ := HC.out _ _ H1.out)
  go_upto_region 6 with (go_at_call 153; (with_reducible refine (HN1.out _ _ H1.out.wb (by have := HLG.out; have := HL.out; (try simp only [List.length_append, putL_length]); omega) (by have := H1.out.wk.size; omega)).mono ?_); rintro x wh2 ⟨rfl, h9, k9⟩; have H2 := zh (H1.out.step h9 k9); clear h9 k9; clear c3 c4 c5 c6 c7 c8; obtain ⟨c3, c4, c5, c6, c7, c8⟩ := HC.out _ _ H2.out)
  go_upto_region 7 with (first
    | (go_at_call 180; (with_reducible refine (H8.out _).mono ?_); rintro x w4 ⟨rfl, hb⟩; have H3 := zh (H2.out.below hb); clear hb; clear c3 c4 c5 c6 c7 c8; obtain ⟨c3, c4, c5, c6, c7, c8⟩ := HC.out _ _ H3.out)
    | (go_at_call 153; (with_reducible refine (HN2.out _ _ H3.out.wb (by have := HLG.out; have := HL.out; (try simp only [List.length_append, putL_length]); omega) (by have := H3.out.wk.size; omega)).mono ?_); rintro x wh4 ⟨rfl, h9, k9⟩; have H4 := zh (H3.out.step h9 k9); clear h9 k9; clear c3 c4 c5 c6 c7 c8; obtain ⟨c3, c4, c5, c6, c7, c8⟩ := HC.out _ _ H4.out))
  go_upto_region 8 with (go_at_call 153; (with_reducible refine (HN3.out _ _ H4.out.wb (by have := HLG.out; have := HL.out; (try simp only [List.length_append, putL_length]); omega) (by have := H4.out.wk.size; omega)).mono ?_); rintro x wh5 ⟨rfl, h9, k9⟩; have H5 := zh (H4.out.step h9 k9); clear h9 k9; clear c3 c4 c5 c6 c7 c8; obtain ⟨c3, c4, c5, c6, c7, c8⟩ := HC.out _ _ H5.out)
  go_wp2_with (go_at_call 158; (with_reducible refine (HADR.out _ _ H5.out (by have := HLG.out; have := HL.out; (try simp only [List.length_append, putL_length]); omega)).mono ?_); rintro x w9 ⟨rfl, h9⟩; have H6 := zh h9; clear h9)
  go_end0
  exact ⟨rfl, H6.out.wb, H6.out.wk⟩
theorem wquery_t (base b : Nat) (l : List UInt8) (t : TK) (us ur : Value) (w0 w : World) (ho : t.ok) (h : WB base w b l) (hs : Ads w0 us t.src) (hk0 : Below w0.heap.size w0 w) (hb1 : w0.heap.size ≤ base) (hb2 : w0.heap.size ≤ b) (hl : l.length ≤ 10000000) (hbase : base ≤ w.heap.size)
    (hr0 : 0 ≤ t.rob) (hr1 : t.rob ≤ 7) (hn : t.src.length ≤ 64) (hq : t.quiet = true) :
    Calls Tryz.prog 156 #[.pointer (some ⟨b, 0, none⟩), .agg (tkC t us ur).toArray] w fun x w' => x = .returned (.tuple #[]) ∧ WB base w' b (l ++ adB t.g ++ putL (flagT t) 1 ++ putL (codeN t.every 16 255) 1 ++ putL t.src.length 2 ++ listL t.src) ∧ WK base b w w' := by
  have H0 := zh (QW.made t us ur ho.1 h)
  have HSA : Hid (∀ W, WK base b w W → AdsK base b W us t.src) := zh fun W hW => (AdsK.old hs hk0 hb1 hb2).wk hW
  obtain ⟨pu, cu, rfl, hu1, hu2⟩ := hs.len
  obtain ⟨r, hr⟩ := Int.eq_ofNat_of_zero_le hr0
  have hr8 : r < 8 := by omega
  have HFL := zh (show flagT t = r + 8 by unfold flagT; rw [hq, hr]; rfl)
  have HC : Hid (∀ W l, QW base b w W w.heap.size t (.slice pu t.src.length cu) ur l → W.cell? ⟨w.heap.size, 22, none⟩ = some (.int .i64 r) ∧ W.cell? ⟨w.heap.size, 21, none⟩ = some (.bool true) ∧ row? W w.heap.size 4 17 = some (adC t.g) ∧ W.cell? ⟨w.heap.size, 23, none⟩ = some (.int .i64 t.every) ∧ W.cell? ⟨w.heap.size, 24, none⟩ = some (.slice pu t.src.length cu) ∧ base ≤ W.heap.size) := zh fun W l h => by
    have h1 := h.tk.rob; have h2 := h.tk.quiet
    rw [hr] at h1; rw [hq] at h2
    exact ⟨h1, h2, h.tk.rg, h.tk.every, h.tk.us, by have := h.wk.size; omega⟩
  have HL := zh hl
  have HLG := zh (adB_le ho.1)
  have HLS := zh (listL_le (l := t.src) ho.2.1)
  have hce := codeN_le t.every 16 255
  have H8 := zh (fun W => code8_any t.every W)
  have HSET := zh (fun W => set8_any r hr8 W)
  have hlit := adsLit_run t.g ho.1
  have HLIT : Hid (∀ W l, QW base b w W w.heap.size t (.slice pu t.src.length cu) ur l → l.length ≤ 100000000 → Calls Tryz.prog 158 #[.pointer (some ⟨b, 0, none⟩), .slice (some ⟨W.heap.size, 0, none⟩) 1 1] (W.alloc (.cells (adC t.g).toArray 24)) fun x w' => x = .returned (.tuple #[]) ∧ QW base b w w' w.heap.size t (.slice pu t.src.length cu) ur (l ++ adB t.g)) := zh fun W l h hl => by
    have hk := (Below.refl W.heap.size W).alloc (Nat.le_refl _) (.cells (adC t.g).toArray 24)
    have h' := h.below hk
    refine (waddrs_any base b l _ [t.g] _ h'.wb (AdsK.lit ho.1 h.wb.lt) (by simp) hl (by have := h'.wk.size; omega)).mono ?_
    rintro x w' ⟨e, h1, h2⟩
    exact ⟨e, by have := h'.step h1 h2; simpa [listL] using this⟩
  have HADR : Hid (∀ W l, QW base b w W w.heap.size t (.slice pu t.src.length cu) ur l → l.length ≤ 100000000 → Calls Tryz.prog 158 #[.pointer (some ⟨b, 0, none⟩), .slice pu t.src.length cu] W fun x w' => x = .returned (.tuple #[]) ∧ QW base b w w' w.heap.size t (.slice pu t.src.length cu) ur (l ++ listL t.src)) := zh fun W l h hl => by
    refine (waddrs_any base b l _ t.src _ h.wb (HSA.out W h.wk) (by omega) hl (by have := h.wk.size; omega)).mono ?_
    rintro x w' ⟨e, h1, h2⟩
    exact ⟨e, h.step h1 h2⟩
  obtain ⟨n, hnn⟩ : ∃ n, n = t.src.length := ⟨_, rfl⟩
  obtain ⟨f, hf⟩ : ∃ f, f = flagT t := ⟨_, rfl⟩
  have hf8 : f < 16 := by rw [hf, HFL.out]; omega
  rw [← hf]
  have HN1 : Hid (∀ l W, WB base W b l → l.length ≤ 100000000 → base ≤ W.heap.size → Calls Tryz.prog 153 #[.pointer (some ⟨b, 0, none⟩), .int .i64 ((r : Int) + 8), .int .i64 1] W fun x w' => x = .returned (.tuple #[]) ∧ WB base w' b (l ++ putL f 1) ∧ WK base b W w') := zh fun l W h1 h2 h3 => by have := wnum_any base b l f 1 W (by omega) (by omega) h1 h2 h3; rw [hf, HFL.out] at this ⊢; exact this
  have HN2 : Hid (∀ l W, WB base W b l → l.length ≤ 100000000 → base ≤ W.heap.size → Calls Tryz.prog 153 #[.pointer (some ⟨b, 0, none⟩), .int .i64 (codeN t.every 16 255 : Nat), .int .i64 1] W fun x w' => x = .returned (.tuple #[]) ∧ WB base w' b (l ++ putL (codeN t.every 16 255) 1) ∧ WK base b W w') := zh fun l W h1 h2 h3 => wnum_any base b l (codeN t.every 16 255) 1 W (by omega) (by omega) h1 h2 h3
  have HN3 : Hid (∀ l W, WB base W b l → l.length ≤ 100000000 → base ≤ W.heap.size → Calls Tryz.prog 153 #[.pointer (some ⟨b, 0, none⟩), .int .i64 (t.src.length : Nat), .int .i64 2] W fun x w' => x = .returned (.tuple #[]) ∧ WB base w' b (l ++ putL t.src.length 2) ∧ WK base b W w') := zh fun l W h1 h2 h3 => wnum_any base b l t.src.length 2 W (by omega) (by omega) h1 h2 h3
  generalize codeN t.every 16 255 = ce at *
  have hw1 : IntKind.u64.wrap (r : Int) = (r : Int) := by simp only [IntKind.wrap_u64]; omega
  have hw2 : IntKind.i64.wrap ((r : Int) + 8 : Int) = ((r : Int) + 8 : Int) := by simp only [IntKind.wrap_i64]; omega
  clear hs hk0 h ho hl hbase
  go_enter Tryz.func156, Tryz.ntmps156
  go_upto_region 1 with (fail)
  generalize w.alloc (.cells (tkC t _ _).toArray 28) = W at H0 ⊢
  obtain ⟨c3, c4, c5, c6, c7, c8⟩ := HC.out _ _ H0.out
  go_upto_region 4 with (go_at_call 160; (with_reducible refine (HSET.out _).mono ?_); rintro x w1 ⟨rfl, rfl⟩)
  go_upto_region 5 with (go_at_call 158; (with_reducible refine (HLIT.out _ _ H0.out (by have := HLG.out; have := HL.out; (try simp only [List.length_append, putL_length]); omega)).mono ?_); rintro x w2 ⟨rfl, h9⟩; have H1 := zh h9; clear h9; clear c3 c4 c5 c6 c7 c8; obtain ⟨c3, c4, c5, c6, c7, c8⟩ := HC.out _ _ H1.out)
  go_upto_region 6 with (go_at_call 153; (with_reducible refine (HN1.out _ _ H1.out.wb (by have := HLG.out; have := HL.out; (try simp only [List.length_append, putL_length]); omega) (by have := H1.out.wk.size; omega)).mono ?_); rintro x wh2 ⟨rfl, h9, k9⟩; have H2 := zh (H1.out.step h9 k9); clear h9 k9; clear c3 c4 c5 c6 c7 c8; obtain ⟨c3, c4, c5, c6, c7, c8⟩ := HC.out _ _ H2.out)
  go_upto_region 7 with (first
    | (go_at_call 180; (with_reducible refine (H8.out _).mono ?_); rintro x w4 ⟨rfl, hb⟩; have H3 := zh (H2.out.below hb); clear hb; clear c3 c4 c5 c6 c7 c8; obtain ⟨c3, c4, c5, c6, c7, c8⟩ := HC.out _ _ H3.out)
    | (go_at_call 153; (with_reducible refine (HN2.out _ _ H3.out.wb (by have := HLG.out; have := HL.out; (try simp only [List.length_append, putL_length]); omega) (by have := H3.out.wk.size; omega)).mono ?_); rintro x wh4 ⟨rfl, h9, k9⟩; have H4 := zh (H3.out.step h9 k9); clear h9 k9; clear c3 c4 c5 c6 c7 c8; obtain ⟨c3, c4, c5, c6, c7, c8⟩ := HC.out _ _ H4.out))
  go_upto_region 8 with (go_at_call 153; (with_reducible refine (HN3.out _ _ H4.out.wb (by have := HLG.out; have := HL.out; (try simp only [List.length_append, putL_length]); omega) (by have := H4.out.wk.size; omega)).mono ?_); rintro x wh5 ⟨rfl, h9, k9⟩; have H5 := zh (H4.out.step h9 k9); clear h9 k9; clear c3 c4 c5 c6 c7 c8; obtain ⟨c3, c4, c5, c6, c7, c8⟩ := HC.out _ _ H5.out)
  go_wp2_with (go_at_call 158; (with_reducible refine (HADR.out _ _ H5.out (by have := HLG.out; have := HL.out; (try simp only [List.length_append, putL_length]); omega)).mono ?_); rintro x w9 ⟨rfl, h9⟩; have H6 := zh h9; clear h9)
  go_end0
  exact ⟨rfl, H6.out.wb, H6.out.wk⟩
end Go.Proofs.YtlbdehegknehiaaGreat
