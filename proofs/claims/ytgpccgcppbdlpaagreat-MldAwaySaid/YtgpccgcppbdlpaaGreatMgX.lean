/-
  The contracts of mld's typeOf, flags, and of rest of queries and of talks of version 1.
-/
import Derived.Test.YtgpccgcppbdlpaaGreatMg18
import Derived.Test.YtgpccgcppbdlpaaGreatMgD
import Derived.Test.YtgpccgcppbdlpaaGreatCodP
namespace Go.Proofs.YtgpccgcppbdlpaaGreat
open Go.RowKit
set_option linter.unusedVariables false
set_option linter.unusedSimpArgs false
attribute [local go_sem ↓] ld_addr st_addr bld_addr ld_rec st_rec ld_tk st_tk bld_tk bld_shp adsLit_eq
attribute [local go_sem] ldr_addr str_addr str_addr_at ldr_tk str_tk bldr_shp ldr_rec str_rec row?_drew_eq

/-- What a good talk is. -/
def kinds9 (t : TK) : Prop := t.ver = 1 ∧ t.kind = 1 ∨ t.ver = 1 ∧ t.kind = 2 ∨ t.ver = 1 ∧ t.kind = 3 ∨ t.ver = 2 ∧ t.kind = 1 ∨ t.ver = 2 ∧ t.kind = 2
theorem good9_kinds {t : TK} (h : good9 t = true) : kinds9 t := by
  by_cases hn : ¬ (t.ver = 1 ∧ t.kind = 1) ∧ ¬ (t.ver = 1 ∧ t.kind = 2) ∧ ¬ (t.ver = 1 ∧ t.kind = 3) ∧ ¬ (t.ver = 2 ∧ t.kind = 1) ∧ ¬ (t.ver = 2 ∧ t.kind = 2)
  · rw [g9_no t.v6 t.ver t.kind hn t.resp t.g t.quiet t.rob t.every t.src t.rcs] at h
    cases h
  · unfold kinds9; omega
theorem ret_int9 {a b : Int} (h : a = b) : Ending.returned (.int .i64 a) = .returned (.int .i64 b) := by rw [h]
theorem typ9_11 (t : TK) (us ur : Value) (w : World) (ho : adOk t.g) (hv : t.ver = 1) (hk : t.kind = 1) : Calls Tryz.prog 21 #[.agg (tkC t us ur).toArray] w fun x w' => x = .returned (.int .i64 (kindM t : Int)) ∧ Below w.heap.size w w' := by
  have H0 := Lib.hid (TB.made w t us ur ho)
  have HC : Hid (∀ W, TB w W t us ur → W.cell? ⟨w.heap.size, 1, none⟩ = some (.int .i64 1) ∧ W.cell? ⟨w.heap.size, 2, none⟩ = some (.int .i64 1)) := Lib.hid fun W h => by
    have h1 := h.1.ver; have h2 := h.1.kind
    rw [hv] at h1; rw [hk] at h2
    exact ⟨h1, h2⟩
  have HV := Lib.hid (show kindM t = 130 by unfold kindM; rw [hv, hk]; rfl)
  clear hv hk ho
  have q12 : ∀ w0, (Op.equalIn 10000 55 (.agg #[.int .i64 1, .int .i64 1]) (.agg #[.int .i64 1, .int .i64 2])).run Tryz.prog w0 = .ok false w0 := fun w0 => by rw [eq_shp]; rfl
  have q13 : ∀ w0, (Op.equalIn 10000 55 (.agg #[.int .i64 1, .int .i64 1]) (.agg #[.int .i64 1, .int .i64 3])).run Tryz.prog w0 = .ok false w0 := fun w0 => by rw [eq_shp]; rfl
  have q22 : ∀ w0, (Op.equalIn 10000 55 (.agg #[.int .i64 1, .int .i64 1]) (.agg #[.int .i64 2, .int .i64 2])).run Tryz.prog w0 = .ok false w0 := fun w0 => by rw [eq_shp]; rfl
  go_enter Tryz.func21, Tryz.ntmps21
  go_upto_region 1 with (fail)
  generalize w.alloc (.cells (tkC t us ur).toArray 28) = W at H0 ⊢
  obtain ⟨c1, c2⟩ := HC.out _ H0.out
  go_wp2
  go_ret
  exact ⟨ret_int9 (by rw [HV.out]; rfl), H0.out.2⟩
theorem typ9_12 (t : TK) (us ur : Value) (w : World) (ho : adOk t.g) (hv : t.ver = 1) (hk : t.kind = 2) : Calls Tryz.prog 21 #[.agg (tkC t us ur).toArray] w fun x w' => x = .returned (.int .i64 (kindM t : Int)) ∧ Below w.heap.size w w' := by
  have H0 := Lib.hid (TB.made w t us ur ho)
  have HC : Hid (∀ W, TB w W t us ur → W.cell? ⟨w.heap.size, 1, none⟩ = some (.int .i64 1) ∧ W.cell? ⟨w.heap.size, 2, none⟩ = some (.int .i64 2)) := Lib.hid fun W h => by
    have h1 := h.1.ver; have h2 := h.1.kind
    rw [hv] at h1; rw [hk] at h2
    exact ⟨h1, h2⟩
  have HV := Lib.hid (show kindM t = 131 by unfold kindM; rw [hv, hk]; rfl)
  clear hv hk ho
  have q12 : ∀ w0, (Op.equalIn 10000 55 (.agg #[.int .i64 1, .int .i64 2]) (.agg #[.int .i64 1, .int .i64 2])).run Tryz.prog w0 = .ok true w0 := fun w0 => by rw [eq_shp]; rfl
  have q13 : ∀ w0, (Op.equalIn 10000 55 (.agg #[.int .i64 1, .int .i64 2]) (.agg #[.int .i64 1, .int .i64 3])).run Tryz.prog w0 = .ok false w0 := fun w0 => by rw [eq_shp]; rfl
  have q22 : ∀ w0, (Op.equalIn 10000 55 (.agg #[.int .i64 1, .int .i64 2]) (.agg #[.int .i64 2, .int .i64 2])).run Tryz.prog w0 = .ok false w0 := fun w0 => by rw [eq_shp]; rfl
  go_enter Tryz.func21, Tryz.ntmps21
  go_upto_region 1 with (fail)
  generalize w.alloc (.cells (tkC t us ur).toArray 28) = W at H0 ⊢
  obtain ⟨c1, c2⟩ := HC.out _ H0.out
  go_wp2
  go_ret
  exact ⟨ret_int9 (by rw [HV.out]; rfl), H0.out.2⟩
theorem typ9_13 (t : TK) (us ur : Value) (w : World) (ho : adOk t.g) (hv : t.ver = 1) (hk : t.kind = 3) : Calls Tryz.prog 21 #[.agg (tkC t us ur).toArray] w fun x w' => x = .returned (.int .i64 (kindM t : Int)) ∧ Below w.heap.size w w' := by
  have H0 := Lib.hid (TB.made w t us ur ho)
  have HC : Hid (∀ W, TB w W t us ur → W.cell? ⟨w.heap.size, 1, none⟩ = some (.int .i64 1) ∧ W.cell? ⟨w.heap.size, 2, none⟩ = some (.int .i64 3)) := Lib.hid fun W h => by
    have h1 := h.1.ver; have h2 := h.1.kind
    rw [hv] at h1; rw [hk] at h2
    exact ⟨h1, h2⟩
  have HV := Lib.hid (show kindM t = 132 by unfold kindM; rw [hv, hk]; rfl)
  clear hv hk ho
  have q12 : ∀ w0, (Op.equalIn 10000 55 (.agg #[.int .i64 1, .int .i64 3]) (.agg #[.int .i64 1, .int .i64 2])).run Tryz.prog w0 = .ok false w0 := fun w0 => by rw [eq_shp]; rfl
  have q13 : ∀ w0, (Op.equalIn 10000 55 (.agg #[.int .i64 1, .int .i64 3]) (.agg #[.int .i64 1, .int .i64 3])).run Tryz.prog w0 = .ok true w0 := fun w0 => by rw [eq_shp]; rfl
  have q22 : ∀ w0, (Op.equalIn 10000 55 (.agg #[.int .i64 1, .int .i64 3]) (.agg #[.int .i64 2, .int .i64 2])).run Tryz.prog w0 = .ok false w0 := fun w0 => by rw [eq_shp]; rfl
  go_enter Tryz.func21, Tryz.ntmps21
  go_upto_region 1 with (fail)
  generalize w.alloc (.cells (tkC t us ur).toArray 28) = W at H0 ⊢
  obtain ⟨c1, c2⟩ := HC.out _ H0.out
  go_wp2
  go_ret
  exact ⟨ret_int9 (by rw [HV.out]; rfl), H0.out.2⟩
theorem typ9_21 (t : TK) (us ur : Value) (w : World) (ho : adOk t.g) (hv : t.ver = 2) (hk : t.kind = 1) : Calls Tryz.prog 21 #[.agg (tkC t us ur).toArray] w fun x w' => x = .returned (.int .i64 (kindM t : Int)) ∧ Below w.heap.size w w' := by
  have H0 := Lib.hid (TB.made w t us ur ho)
  have HC : Hid (∀ W, TB w W t us ur → W.cell? ⟨w.heap.size, 1, none⟩ = some (.int .i64 2) ∧ W.cell? ⟨w.heap.size, 2, none⟩ = some (.int .i64 1)) := Lib.hid fun W h => by
    have h1 := h.1.ver; have h2 := h.1.kind
    rw [hv] at h1; rw [hk] at h2
    exact ⟨h1, h2⟩
  have HV := Lib.hid (show kindM t = 130 by unfold kindM; rw [hv, hk]; rfl)
  clear hv hk ho
  have q12 : ∀ w0, (Op.equalIn 10000 55 (.agg #[.int .i64 2, .int .i64 1]) (.agg #[.int .i64 1, .int .i64 2])).run Tryz.prog w0 = .ok false w0 := fun w0 => by rw [eq_shp]; rfl
  have q13 : ∀ w0, (Op.equalIn 10000 55 (.agg #[.int .i64 2, .int .i64 1]) (.agg #[.int .i64 1, .int .i64 3])).run Tryz.prog w0 = .ok false w0 := fun w0 => by rw [eq_shp]; rfl
  have q22 : ∀ w0, (Op.equalIn 10000 55 (.agg #[.int .i64 2, .int .i64 1]) (.agg #[.int .i64 2, .int .i64 2])).run Tryz.prog w0 = .ok false w0 := fun w0 => by rw [eq_shp]; rfl
  go_enter Tryz.func21, Tryz.ntmps21
  go_upto_region 1 with (fail)
  generalize w.alloc (.cells (tkC t us ur).toArray 28) = W at H0 ⊢
  obtain ⟨c1, c2⟩ := HC.out _ H0.out
  go_wp2
  go_ret
  exact ⟨ret_int9 (by rw [HV.out]; rfl), H0.out.2⟩
theorem typ9_22 (t : TK) (us ur : Value) (w : World) (ho : adOk t.g) (hv : t.ver = 2) (hk : t.kind = 2) : Calls Tryz.prog 21 #[.agg (tkC t us ur).toArray] w fun x w' => x = .returned (.int .i64 (kindM t : Int)) ∧ Below w.heap.size w w' := by
  have H0 := Lib.hid (TB.made w t us ur ho)
  have HC : Hid (∀ W, TB w W t us ur → W.cell? ⟨w.heap.size, 1, none⟩ = some (.int .i64 2) ∧ W.cell? ⟨w.heap.size, 2, none⟩ = some (.int .i64 2)) := Lib.hid fun W h => by
    have h1 := h.1.ver; have h2 := h.1.kind
    rw [hv] at h1; rw [hk] at h2
    exact ⟨h1, h2⟩
  have HV := Lib.hid (show kindM t = 143 by unfold kindM; rw [hv, hk]; rfl)
  clear hv hk ho
  have q12 : ∀ w0, (Op.equalIn 10000 55 (.agg #[.int .i64 2, .int .i64 2]) (.agg #[.int .i64 1, .int .i64 2])).run Tryz.prog w0 = .ok false w0 := fun w0 => by rw [eq_shp]; rfl
  have q13 : ∀ w0, (Op.equalIn 10000 55 (.agg #[.int .i64 2, .int .i64 2]) (.agg #[.int .i64 1, .int .i64 3])).run Tryz.prog w0 = .ok false w0 := fun w0 => by rw [eq_shp]; rfl
  have q22 : ∀ w0, (Op.equalIn 10000 55 (.agg #[.int .i64 2, .int .i64 2]) (.agg #[.int .i64 2, .int .i64 2])).run Tryz.prog w0 = .ok true w0 := fun w0 => by rw [eq_shp]; rfl
  go_enter Tryz.func21, Tryz.ntmps21
  go_upto_region 1 with (fail)
  generalize w.alloc (.cells (tkC t us ur).toArray 28) = W at H0 ⊢
  obtain ⟨c1, c2⟩ := HC.out _ H0.out
  go_wp2
  go_ret
  exact ⟨ret_int9 (by rw [HV.out]; rfl), H0.out.2⟩
theorem typ9_any (t : TK) (us ur : Value) (w : World) (ho : adOk t.g) (hk : kinds9 t) : Calls Tryz.prog 21 #[.agg (tkC t us ur).toArray] w fun x w' => x = .returned (.int .i64 (kindM t : Int)) ∧ Below w.heap.size w w' := by
  rcases hk with ⟨h1, h2⟩ | ⟨h1, h2⟩ | ⟨h1, h2⟩ | ⟨h1, h2⟩ | ⟨h1, h2⟩
  · exact typ9_11 t us ur w ho h1 h2
  · exact typ9_12 t us ur w ho h1 h2
  · exact typ9_13 t us ur w ho h1 h2
  · exact typ9_21 t us ur w ho h1 h2
  · exact typ9_22 t us ur w ho h1 h2
theorem set9_any (r : Nat) (h : r < 8) (w : World) : Calls Tryz.prog 97 #[.int .u64 r, .int .i64 3, .int .i64 1, .int .u64 1] w fun e w' => e = .returned (.int .u64 ((r + 8 : Nat) : Int)) ∧ w = w' := by
  have h1 : ∀ r, r < 8 → setN r 3 1 1 = r + 8 := by decide +kernel
  have := set_any r (by omega) 3 1 1 (by omega) w
  rw [show clampN 3 64 = 3 from rfl, show clampN 1 64 = 1 from rfl, h1 r h] at this
  exact this
theorem flags9_f (t : TK) (us ur : Value) (w : World) (ho : adOk t.g) (hr0 : 0 ≤ t.rob) (hr1 : t.rob ≤ 7) (hq : t.quiet = false) : Calls Tryz.prog 64 #[.agg (tkC t us ur).toArray] w fun x w' => x = .returned (.int .i64 (flagT t : Int)) ∧ Below w.heap.size w w' := by
  have H0 := Lib.hid (TB.made w t us ur ho)
  obtain ⟨r, hr⟩ := Int.eq_ofNat_of_zero_le hr0
  have hr8 : r < 8 := by omega
  have HC : Hid (∀ W, TB w W t us ur → W.cell? ⟨w.heap.size, 22, none⟩ = some (.int .i64 r) ∧ W.cell? ⟨w.heap.size, 21, none⟩ = some (.bool false)) := Lib.hid fun W h => by
    have h1 := h.1.rob; have h2 := h.1.quiet
    rw [hr] at h1; rw [hq] at h2
    exact ⟨h1, h2⟩
  have HFL := Lib.hid (show flagT t = r by unfold flagT; rw [hq, hr]; rfl)
  have HSET := Lib.hid (fun W => set9_any r hr8 W)
  have hw1 : IntKind.u64.wrap (r : Int) = (r : Int) := by simp only [IntKind.wrap_u64]; omega
  have hw2 : IntKind.i64.wrap (r : Int) = (r : Int) := by simp only [IntKind.wrap_i64]; omega
  have hw3 : IntKind.i64.wrap ((r : Int) + 8) = (r : Int) + 8 := by simp only [IntKind.wrap_i64]; omega
  clear hq ho hr0 hr1 hr
  go_enter Tryz.func64, Tryz.ntmps64
  go_upto_region 1 with (fail)
  generalize w.alloc (.cells (tkC t us ur).toArray 28) = W at H0 ⊢
  obtain ⟨c1, c2⟩ := HC.out _ H0.out
  go_wp2_with fail
  go_ret
  exact ⟨ret_int9 (by rw [HFL.out]; try rfl), H0.out.2⟩
theorem flags9_t (t : TK) (us ur : Value) (w : World) (ho : adOk t.g) (hr0 : 0 ≤ t.rob) (hr1 : t.rob ≤ 7) (hq : t.quiet = true) : Calls Tryz.prog 64 #[.agg (tkC t us ur).toArray] w fun x w' => x = .returned (.int .i64 (flagT t : Int)) ∧ Below w.heap.size w w' := by
  have H0 := Lib.hid (TB.made w t us ur ho)
  obtain ⟨r, hr⟩ := Int.eq_ofNat_of_zero_le hr0
  have hr8 : r < 8 := by omega
  have HC : Hid (∀ W, TB w W t us ur → W.cell? ⟨w.heap.size, 22, none⟩ = some (.int .i64 r) ∧ W.cell? ⟨w.heap.size, 21, none⟩ = some (.bool true)) := Lib.hid fun W h => by
    have h1 := h.1.rob; have h2 := h.1.quiet
    rw [hr] at h1; rw [hq] at h2
    exact ⟨h1, h2⟩
  have HFL := Lib.hid (show flagT t = r + 8 by unfold flagT; rw [hq, hr]; rfl)
  have HSET := Lib.hid (fun W => set9_any r hr8 W)
  have hw1 : IntKind.u64.wrap (r : Int) = (r : Int) := by simp only [IntKind.wrap_u64]; omega
  have hw2 : IntKind.i64.wrap (r : Int) = (r : Int) := by simp only [IntKind.wrap_i64]; omega
  have hw3 : IntKind.i64.wrap ((r : Int) + 8) = (r : Int) + 8 := by simp only [IntKind.wrap_i64]; omega
  clear hq ho hr0 hr1 hr
  go_enter Tryz.func64, Tryz.ntmps64
  go_upto_region 1 with (fail)
  generalize w.alloc (.cells (tkC t us ur).toArray 28) = W at H0 ⊢
  obtain ⟨c1, c2⟩ := HC.out _ H0.out
  go_wp2_with (go_at_call 97; (with_reducible refine (HSET.out _).mono ?_); rintro x w1 ⟨rfl, rfl⟩)
  go_ret
  exact ⟨ret_int9 (by rw [HFL.out]; try rfl), H0.out.2⟩
theorem flags9_any (t : TK) (us ur : Value) (w : World) (ho : adOk t.g) (hr0 : 0 ≤ t.rob) (hr1 : t.rob ≤ 7) : Calls Tryz.prog 64 #[.agg (tkC t us ur).toArray] w fun x w' => x = .returned (.int .i64 (flagT t : Int)) ∧ Below w.heap.size w w' := by
  by_cases hq : t.quiet = true
  · exact flags9_t t us ur w ho hr0 hr1 hq
  · exact flags9_f t us ur w ho hr0 hr1 (by simpa using hq)
theorem balloc (W : World) (o : Obj) : Below W.heap.size W (W.alloc o) := (Below.refl _ _).alloc (Nat.le_refl _) _
theorem Ints.lit20 (W : World) (a : Nat) : Ints (W.alloc (.cells #[.int .i64 a, .int .i64 0] 3)) (.slice (some ⟨W.heap.size, 0, none⟩) 2 2) [a, 0] := Ints.lit2 W a 0
theorem Ints.lit02 (W : World) (a : Nat) : Ints (W.alloc (.cells #[.int .i64 0, .int .i64 a] 3)) (.slice (some ⟨W.heap.size, 0, none⟩) 2 2) [0, a] := Ints.lit2 W 0 a
set_option maxRecDepth 100000 in
set_option maxHeartbeats 16000000 in
theorem rest11_core (v6 : Bool) (g : AD) (quiet : Bool) (rob every : Int) (src : List AD) (rcs : List RC) (us ur : Value) (w : World) (ho : adOk g) (rn : Nat) (x1 x2 y1 : List UInt8)
    (hn1 : ∀ W v, Ints W v [rn, 0] → Calls Tryz.prog 20 #[.int .i64 2, v] W fun x w' => x = .returned (.string (Str x1)) ∧ Below W.heap.size W w')
    (ha1 : ∀ W v, Ads W v [g] → Calls Tryz.prog 63 #[v] W fun x w' => x = .returned (.string (Str x2)) ∧ Below W.heap.size W w')
    (c1 : ∀ w, (Op.stringOp .add (Str x1) (Str x2)).run Tryz.prog w = .ok (.string (Str y1)) w) :
    Calls Tryz.prog 22 #[.agg (tkC ⟨v6, 1, 1, rn, g, quiet, rob, every, src, rcs⟩ us ur).toArray] w fun x w' => x = .returned (.string (Str y1)) ∧ Below w.heap.size w w' := by
  have T := Lib.hid (TB.made w ⟨v6, 1, 1, rn, g, quiet, rob, every, src, rcs⟩ us ur ho)
  have HS : Hid (∀ W, TB w W ⟨v6, 1, 1, rn, g, quiet, rob, every, src, rcs⟩ us ur → W.cell? ⟨w.heap.size, 3, none⟩ = some (.int .i64 rn) ∧ row? W w.heap.size 4 17 = some (adC g)) := Lib.hid fun W h => ⟨h.1.resp, h.1.rg⟩
  have HC : Hid (∀ W, TB w W ⟨v6, 1, 1, rn, g, quiet, rob, every, src, rcs⟩ us ur → W.cell? ⟨w.heap.size, 1, none⟩ = some (.int .i64 1) ∧ W.cell? ⟨w.heap.size, 2, none⟩ = some (.int .i64 1)) := Lib.hid fun W h => ⟨h.1.ver, h.1.kind⟩
  have HN1 := Lib.hid hn1
  have HA1 := Lib.hid ha1
  have HOG := Lib.hid ho
  have hlit := adsLit_run g ho
  have q21 : ∀ w0, (Op.equalIn 10000 55 (.agg #[.int .i64 1, .int .i64 1]) (.agg #[.int .i64 2, .int .i64 1])).run Tryz.prog w0 = .ok false w0 := fun w0 => by rw [eq_shp]; rfl
  have q22 : ∀ w0, (Op.equalIn 10000 55 (.agg #[.int .i64 1, .int .i64 1]) (.agg #[.int .i64 2, .int .i64 2])).run Tryz.prog w0 = .ok false w0 := fun w0 => by rw [eq_shp]; rfl
  clear hn1 ha1 ho
  generalize ht : (⟨v6, 1, 1, (rn : Int), g, quiet, rob, every, src, rcs⟩ : TK) = t at *
  clear ht
  go_enter Tryz.func22, Tryz.ntmps22
  go_upto_region 1 with (fail)
  generalize w.alloc (.cells (tkC t _ _).toArray 28) = W0 at T ⊢
  obtain ⟨d1, d2⟩ := HC.out _ T.out
  go_upto_region 6 with (fail)
  clear d1 d2 q21 q22 HC
  refine wp_region_held_drew (S := fun W => W.cell? ⟨w.heap.size, 3, none⟩ = some (.int .i64 rn) ∧ row? W w.heap.size 4 17 = some (adC g)) (by kernel_rfl) (HS.out _ (T.out.drewN 1)) (fun hHeld => ?_)
  replace T := Lib.hid (T.out.drewN 1)
  change Hid (TB w (World.drew _) _ _ _) at T
  generalize World.drew _ = Wq at T hHeld ⊢
  refine wpAnyH_take (i := 0) (oi := { dst := some 51, op := _, type := _, pos := _, after := _, guard := _ }) (v := ?v1) rfl (by kernel_rfl) (by kernel_rfl) (by kernel_rfl) (fun _ _ _ h => h) (Or.inl ⟨by rfl, ?y1⟩) (by assumption) ?r1
  case y1 => (intro w hSw; obtain ⟨s1, s2⟩ := hSw; go_simp; try with_reducible rfl)
  try simp only [Act.put, List.setIfInBounds_toArray, List.set_cons_zero, List.set_cons_succ]
  refine wpAnyH_take (i := 1) (oi := { dst := some 52, op := _, type := _, pos := _, after := _, guard := _ }) (v := ?v2) rfl (by kernel_rfl) (by kernel_rfl) (by kernel_rfl) (fun _ _ _ h => h) (Or.inl ⟨by rfl, ?y2⟩) (by assumption) ?r2
  case y2 => (intro w hSw; obtain ⟨s1, s2⟩ := hSw; go_simp; try with_reducible rfl)
  try simp only [Act.put, List.setIfInBounds_toArray, List.set_cons_zero, List.set_cons_succ]
  refine wpAnyH_take (i := 4) (oi := { dst := some 55, op := _, type := _, pos := _, after := _, guard := _ }) (v := ?v3) rfl (by kernel_rfl) (by kernel_rfl) (by kernel_rfl) (fun _ _ _ h => h) (Or.inl ⟨by rfl, ?y3⟩) (by assumption) ?r3
  case y3 => (intro w hSw; obtain ⟨s1, s2⟩ := hSw; go_simp; try with_reducible rfl)
  try simp only [Act.put, List.setIfInBounds_toArray, List.set_cons_zero, List.set_cons_succ]
  refine wpAnyH_take (i := 5) (oi := { dst := some 56, op := _, type := _, pos := _, after := _, guard := _ }) (v := ?v4) rfl (by kernel_rfl) (by kernel_rfl) (by kernel_rfl) (fun _ _ _ h => h) (Or.inl ⟨by rfl, ?y4⟩) (by assumption) ?r4
  case y4 => (intro w hSw; obtain ⟨s1, s2⟩ := hSw; go_simp; try with_reducible rfl)
  try simp only [Act.put, List.setIfInBounds_toArray, List.set_cons_zero, List.set_cons_succ]
  refine wpAnyH_ready (rs := [2, 6]) (by kernel_rfl) (by simp) (AllReadyH.cons (o := { dst := some 53, op := _, type := _, pos := _, after := _, guard := _ }) rfl (fun K hK => ?_) (AllReadyH.cons (o := { dst := some 57, op := _, type := _, pos := _, after := _, guard := _ }) rfl (fun K hK => ?_) AllReadyH.nil))
  · go_simp
    refine hK.out _ _ (HS.out _ (Lib.hid (T.out.keep (balloc Wq (.cells #[.int .i64 rn, .int .i64 0] 3)))).out) (fun hHeld => ?_)
    clear hK K
    try simp only [Act.put, List.setIfInBounds_toArray, List.set_cons_zero, List.set_cons_succ]
    replace T := Lib.hid (T.out.keep (balloc Wq (.cells #[.int .i64 rn, .int .i64 0] 3)))
    have I14 := Lib.hid (Ints.lit20 Wq rn)
    generalize World.alloc _ _ = Wn at T I14 hHeld ⊢
    refine wpAnyH_ready (rs := [3, 6]) (by kernel_rfl) (by simp) (AllReadyH.cons (o := { dst := some 54, op := _, type := _, pos := _, after := _, guard := _ }) rfl (fun K hK => ?_) (AllReadyH.cons (o := { dst := some 57, op := _, type := _, pos := _, after := _, guard := _ }) rfl (fun K hK => ?_) AllReadyH.nil))
    · go_simp
      go_at_call 20; (with_reducible refine (HN1.out _ _ I14.out).mono ?_); rintro x wn ⟨rfl, hb⟩; replace T := Lib.hid (T.out.keep hb); clear hb
      try go_wp2_with fail
      refine hK.out _ _ (HS.out _ T.out) (fun hHeld => ?_)
      clear hK K
      try simp only [Act.put, List.setIfInBounds_toArray, List.set_cons_zero, List.set_cons_succ]
      refine wpAnyH_ready (rs := [6]) (by kernel_rfl) (by simp) (AllReadyH.cons (o := { dst := some 57, op := _, type := _, pos := _, after := _, guard := _ }) rfl (fun K hK => ?_) AllReadyH.nil)
      go_simp
      refine hK.out _ _ (HS.out _ (Lib.hid (T.out.keep (balloc wn (.cells (adC g).toArray 24)))).out) (fun hHeld => ?_)
      clear hK K
      try simp only [Act.put, List.setIfInBounds_toArray, List.set_cons_zero, List.set_cons_succ]
      replace T := Lib.hid (T.out.keep (balloc wn (.cells (adC g).toArray 24)))
      have A18 := Lib.hid (Ads.lit wn g HOG.out)
      generalize World.alloc _ _ = Wn at T A18 hHeld ⊢
      refine wpAnyH_ready (rs := [7]) (by kernel_rfl) (by simp) (AllReadyH.cons (o := { dst := some 58, op := _, type := _, pos := _, after := _, guard := _ }) rfl (fun K hK => ?_) AllReadyH.nil)
      go_simp
      go_at_call 63; (with_reducible refine (HA1.out _ _ A18.out).mono ?_); rintro x wn ⟨rfl, hb⟩; replace T := Lib.hid (T.out.keep hb); clear hb
      try go_wp2_with fail
      refine hK.out _ _ (HS.out _ T.out) (fun hHeld => ?_)
      clear hK K
      try simp only [Act.put, List.setIfInBounds_toArray, List.set_cons_zero, List.set_cons_succ]
      refine wpAnyH_take (i := 8) (oi := { dst := some 59, op := _, type := _, pos := _, after := _, guard := _ }) (v := ?v5) rfl (by kernel_rfl) (by kernel_rfl) (by kernel_rfl) (fun _ _ _ h => h) (Or.inl ⟨by rfl, ?y5⟩) (by assumption) ?r5
      case y5 => (intro w hSw; obtain ⟨s1, s2⟩ := hSw; go_simp; try with_reducible rfl)
      try simp only [Act.put, List.setIfInBounds_toArray, List.set_cons_zero, List.set_cons_succ]
      refine wpAnyH_take (i := 9) (oi := { dst := some 2, op := _, type := _, pos := _, after := _, guard := _ }) (v := ?v6) rfl (by kernel_rfl) (by kernel_rfl) (by kernel_rfl) (fun _ _ _ h => h) (Or.inl ⟨by rfl, ?y6⟩) (by assumption) ?r6
      case y6 => (intro w hSw; obtain ⟨s1, s2⟩ := hSw; go_simp; try with_reducible rfl)
      try simp only [Act.put, List.setIfInBounds_toArray, List.set_cons_zero, List.set_cons_succ]
      refine wpAnyH_done (by kernel_rfl) ?_ _
      go_wp2
      go_ret
      exact ⟨rfl, T.out.2⟩
    · go_simp
      refine hK.out _ _ (HS.out _ (Lib.hid (T.out.keep (balloc Wn (.cells (adC g).toArray 24)))).out) (fun hHeld => ?_)
      clear hK K
      try simp only [Act.put, List.setIfInBounds_toArray, List.set_cons_zero, List.set_cons_succ]
      replace T := Lib.hid (T.out.keep (balloc Wn (.cells (adC g).toArray 24)))
      replace I14 := Lib.hid (I14.out.below (balloc Wn (.cells (adC g).toArray 24)))
      have A18 := Lib.hid (Ads.lit Wn g HOG.out)
      generalize World.alloc _ _ = Wn at T I14 A18 hHeld ⊢
      refine wpAnyH_ready (rs := [3]) (by kernel_rfl) (by simp) (AllReadyH.cons (o := { dst := some 54, op := _, type := _, pos := _, after := _, guard := _ }) rfl (fun K hK => ?_) AllReadyH.nil)
      go_simp
      go_at_call 20; (with_reducible refine (HN1.out _ _ I14.out).mono ?_); rintro x wn ⟨rfl, hb⟩; replace T := Lib.hid (T.out.keep hb); replace A18 := Lib.hid (A18.out.below hb); clear hb
      try go_wp2_with fail
      refine hK.out _ _ (HS.out _ T.out) (fun hHeld => ?_)
      clear hK K
      try simp only [Act.put, List.setIfInBounds_toArray, List.set_cons_zero, List.set_cons_succ]
      refine wpAnyH_ready (rs := [7]) (by kernel_rfl) (by simp) (AllReadyH.cons (o := { dst := some 58, op := _, type := _, pos := _, after := _, guard := _ }) rfl (fun K hK => ?_) AllReadyH.nil)
      go_simp
      go_at_call 63; (with_reducible refine (HA1.out _ _ A18.out).mono ?_); rintro x wn ⟨rfl, hb⟩; replace T := Lib.hid (T.out.keep hb); clear hb
      try go_wp2_with fail
      refine hK.out _ _ (HS.out _ T.out) (fun hHeld => ?_)
      clear hK K
      try simp only [Act.put, List.setIfInBounds_toArray, List.set_cons_zero, List.set_cons_succ]
      refine wpAnyH_take (i := 8) (oi := { dst := some 59, op := _, type := _, pos := _, after := _, guard := _ }) (v := ?v7) rfl (by kernel_rfl) (by kernel_rfl) (by kernel_rfl) (fun _ _ _ h => h) (Or.inl ⟨by rfl, ?y7⟩) (by assumption) ?r7
      case y7 => (intro w hSw; obtain ⟨s1, s2⟩ := hSw; go_simp; try with_reducible rfl)
      try simp only [Act.put, List.setIfInBounds_toArray, List.set_cons_zero, List.set_cons_succ]
      refine wpAnyH_take (i := 9) (oi := { dst := some 2, op := _, type := _, pos := _, after := _, guard := _ }) (v := ?v8) rfl (by kernel_rfl) (by kernel_rfl) (by kernel_rfl) (fun _ _ _ h => h) (Or.inl ⟨by rfl, ?y8⟩) (by assumption) ?r8
      case y8 => (intro w hSw; obtain ⟨s1, s2⟩ := hSw; go_simp; try with_reducible rfl)
      try simp only [Act.put, List.setIfInBounds_toArray, List.set_cons_zero, List.set_cons_succ]
      refine wpAnyH_done (by kernel_rfl) ?_ _
      go_wp2
      go_ret
      exact ⟨rfl, T.out.2⟩
  · go_simp
    refine hK.out _ _ (HS.out _ (Lib.hid (T.out.keep (balloc Wq (.cells (adC g).toArray 24)))).out) (fun hHeld => ?_)
    clear hK K
    try simp only [Act.put, List.setIfInBounds_toArray, List.set_cons_zero, List.set_cons_succ]
    replace T := Lib.hid (T.out.keep (balloc Wq (.cells (adC g).toArray 24)))
    have A18 := Lib.hid (Ads.lit Wq g HOG.out)
    generalize World.alloc _ _ = Wn at T A18 hHeld ⊢
    refine wpAnyH_ready (rs := [2]) (by kernel_rfl) (by simp) (AllReadyH.cons (o := { dst := some 53, op := _, type := _, pos := _, after := _, guard := _ }) rfl (fun K hK => ?_) AllReadyH.nil)
    go_simp
    refine hK.out _ _ (HS.out _ (Lib.hid (T.out.keep (balloc Wn (.cells #[.int .i64 rn, .int .i64 0] 3)))).out) (fun hHeld => ?_)
    clear hK K
    try simp only [Act.put, List.setIfInBounds_toArray, List.set_cons_zero, List.set_cons_succ]
    replace T := Lib.hid (T.out.keep (balloc Wn (.cells #[.int .i64 rn, .int .i64 0] 3)))
    replace A18 := Lib.hid (A18.out.below (balloc Wn (.cells #[.int .i64 rn, .int .i64 0] 3)))
    have I14 := Lib.hid (Ints.lit20 Wn rn)
    generalize World.alloc _ _ = Wn at T A18 I14 hHeld ⊢
    refine wpAnyH_ready (rs := [3]) (by kernel_rfl) (by simp) (AllReadyH.cons (o := { dst := some 54, op := _, type := _, pos := _, after := _, guard := _ }) rfl (fun K hK => ?_) AllReadyH.nil)
    go_simp
    go_at_call 20; (with_reducible refine (HN1.out _ _ I14.out).mono ?_); rintro x wn ⟨rfl, hb⟩; replace T := Lib.hid (T.out.keep hb); replace A18 := Lib.hid (A18.out.below hb); clear hb
    try go_wp2_with fail
    refine hK.out _ _ (HS.out _ T.out) (fun hHeld => ?_)
    clear hK K
    try simp only [Act.put, List.setIfInBounds_toArray, List.set_cons_zero, List.set_cons_succ]
    refine wpAnyH_ready (rs := [7]) (by kernel_rfl) (by simp) (AllReadyH.cons (o := { dst := some 58, op := _, type := _, pos := _, after := _, guard := _ }) rfl (fun K hK => ?_) AllReadyH.nil)
    go_simp
    go_at_call 63; (with_reducible refine (HA1.out _ _ A18.out).mono ?_); rintro x wn ⟨rfl, hb⟩; replace T := Lib.hid (T.out.keep hb); clear hb
    try go_wp2_with fail
    refine hK.out _ _ (HS.out _ T.out) (fun hHeld => ?_)
    clear hK K
    try simp only [Act.put, List.setIfInBounds_toArray, List.set_cons_zero, List.set_cons_succ]
    refine wpAnyH_take (i := 8) (oi := { dst := some 59, op := _, type := _, pos := _, after := _, guard := _ }) (v := ?v9) rfl (by kernel_rfl) (by kernel_rfl) (by kernel_rfl) (fun _ _ _ h => h) (Or.inl ⟨by rfl, ?y9⟩) (by assumption) ?r9
    case y9 => (intro w hSw; obtain ⟨s1, s2⟩ := hSw; go_simp; try with_reducible rfl)
    try simp only [Act.put, List.setIfInBounds_toArray, List.set_cons_zero, List.set_cons_succ]
    refine wpAnyH_take (i := 9) (oi := { dst := some 2, op := _, type := _, pos := _, after := _, guard := _ }) (v := ?v10) rfl (by kernel_rfl) (by kernel_rfl) (by kernel_rfl) (fun _ _ _ h => h) (Or.inl ⟨by rfl, ?y10⟩) (by assumption) ?r10
    case y10 => (intro w hSw; obtain ⟨s1, s2⟩ := hSw; go_simp; try with_reducible rfl)
    try simp only [Act.put, List.setIfInBounds_toArray, List.set_cons_zero, List.set_cons_succ]
    refine wpAnyH_done (by kernel_rfl) ?_ _
    go_wp2
    go_ret
    exact ⟨rfl, T.out.2⟩
set_option maxRecDepth 100000 in
set_option maxHeartbeats 16000000 in
theorem rest12_core (v6 : Bool) (g : AD) (quiet : Bool) (rob every : Int) (src : List AD) (rcs : List RC) (us ur : Value) (w : World) (ho : adOk g) (rn : Nat) (x1 x2 y1 : List UInt8)
    (hn1 : ∀ W v, Ints W v [rn, 0] → Calls Tryz.prog 20 #[.int .i64 2, v] W fun x w' => x = .returned (.string (Str x1)) ∧ Below W.heap.size W w')
    (ha1 : ∀ W v, Ads W v [g] → Calls Tryz.prog 63 #[v] W fun x w' => x = .returned (.string (Str x2)) ∧ Below W.heap.size W w')
    (c1 : ∀ w, (Op.stringOp .add (Str x1) (Str x2)).run Tryz.prog w = .ok (.string (Str y1)) w) :
    Calls Tryz.prog 22 #[.agg (tkC ⟨v6, 1, 2, rn, g, quiet, rob, every, src, rcs⟩ us ur).toArray] w fun x w' => x = .returned (.string (Str y1)) ∧ Below w.heap.size w w' := by
  have T := Lib.hid (TB.made w ⟨v6, 1, 2, rn, g, quiet, rob, every, src, rcs⟩ us ur ho)
  have HS : Hid (∀ W, TB w W ⟨v6, 1, 2, rn, g, quiet, rob, every, src, rcs⟩ us ur → W.cell? ⟨w.heap.size, 3, none⟩ = some (.int .i64 rn) ∧ row? W w.heap.size 4 17 = some (adC g)) := Lib.hid fun W h => ⟨h.1.resp, h.1.rg⟩
  have HC : Hid (∀ W, TB w W ⟨v6, 1, 2, rn, g, quiet, rob, every, src, rcs⟩ us ur → W.cell? ⟨w.heap.size, 1, none⟩ = some (.int .i64 1) ∧ W.cell? ⟨w.heap.size, 2, none⟩ = some (.int .i64 2)) := Lib.hid fun W h => ⟨h.1.ver, h.1.kind⟩
  have HN1 := Lib.hid hn1
  have HA1 := Lib.hid ha1
  have HOG := Lib.hid ho
  have hlit := adsLit_run g ho
  have q21 : ∀ w0, (Op.equalIn 10000 55 (.agg #[.int .i64 1, .int .i64 2]) (.agg #[.int .i64 2, .int .i64 1])).run Tryz.prog w0 = .ok false w0 := fun w0 => by rw [eq_shp]; rfl
  have q22 : ∀ w0, (Op.equalIn 10000 55 (.agg #[.int .i64 1, .int .i64 2]) (.agg #[.int .i64 2, .int .i64 2])).run Tryz.prog w0 = .ok false w0 := fun w0 => by rw [eq_shp]; rfl
  clear hn1 ha1 ho
  generalize ht : (⟨v6, 1, 2, (rn : Int), g, quiet, rob, every, src, rcs⟩ : TK) = t at *
  clear ht
  go_enter Tryz.func22, Tryz.ntmps22
  go_upto_region 1 with (fail)
  generalize w.alloc (.cells (tkC t _ _).toArray 28) = W0 at T ⊢
  obtain ⟨d1, d2⟩ := HC.out _ T.out
  go_upto_region 6 with (fail)
  clear d1 d2 q21 q22 HC
  refine wp_region_held_drew (S := fun W => W.cell? ⟨w.heap.size, 3, none⟩ = some (.int .i64 rn) ∧ row? W w.heap.size 4 17 = some (adC g)) (by kernel_rfl) (HS.out _ (T.out.drewN 1)) (fun hHeld => ?_)
  replace T := Lib.hid (T.out.drewN 1)
  change Hid (TB w (World.drew _) _ _ _) at T
  generalize World.drew _ = Wq at T hHeld ⊢
  refine wpAnyH_take (i := 0) (oi := { dst := some 51, op := _, type := _, pos := _, after := _, guard := _ }) (v := ?v1) rfl (by kernel_rfl) (by kernel_rfl) (by kernel_rfl) (fun _ _ _ h => h) (Or.inl ⟨by rfl, ?y1⟩) (by assumption) ?r1
  case y1 => (intro w hSw; obtain ⟨s1, s2⟩ := hSw; go_simp; try with_reducible rfl)
  try simp only [Act.put, List.setIfInBounds_toArray, List.set_cons_zero, List.set_cons_succ]
  refine wpAnyH_take (i := 1) (oi := { dst := some 52, op := _, type := _, pos := _, after := _, guard := _ }) (v := ?v2) rfl (by kernel_rfl) (by kernel_rfl) (by kernel_rfl) (fun _ _ _ h => h) (Or.inl ⟨by rfl, ?y2⟩) (by assumption) ?r2
  case y2 => (intro w hSw; obtain ⟨s1, s2⟩ := hSw; go_simp; try with_reducible rfl)
  try simp only [Act.put, List.setIfInBounds_toArray, List.set_cons_zero, List.set_cons_succ]
  refine wpAnyH_take (i := 4) (oi := { dst := some 55, op := _, type := _, pos := _, after := _, guard := _ }) (v := ?v3) rfl (by kernel_rfl) (by kernel_rfl) (by kernel_rfl) (fun _ _ _ h => h) (Or.inl ⟨by rfl, ?y3⟩) (by assumption) ?r3
  case y3 => (intro w hSw; obtain ⟨s1, s2⟩ := hSw; go_simp; try with_reducible rfl)
  try simp only [Act.put, List.setIfInBounds_toArray, List.set_cons_zero, List.set_cons_succ]
  refine wpAnyH_take (i := 5) (oi := { dst := some 56, op := _, type := _, pos := _, after := _, guard := _ }) (v := ?v4) rfl (by kernel_rfl) (by kernel_rfl) (by kernel_rfl) (fun _ _ _ h => h) (Or.inl ⟨by rfl, ?y4⟩) (by assumption) ?r4
  case y4 => (intro w hSw; obtain ⟨s1, s2⟩ := hSw; go_simp; try with_reducible rfl)
  try simp only [Act.put, List.setIfInBounds_toArray, List.set_cons_zero, List.set_cons_succ]
  refine wpAnyH_ready (rs := [2, 6]) (by kernel_rfl) (by simp) (AllReadyH.cons (o := { dst := some 53, op := _, type := _, pos := _, after := _, guard := _ }) rfl (fun K hK => ?_) (AllReadyH.cons (o := { dst := some 57, op := _, type := _, pos := _, after := _, guard := _ }) rfl (fun K hK => ?_) AllReadyH.nil))
  · go_simp
    refine hK.out _ _ (HS.out _ (Lib.hid (T.out.keep (balloc Wq (.cells #[.int .i64 rn, .int .i64 0] 3)))).out) (fun hHeld => ?_)
    clear hK K
    try simp only [Act.put, List.setIfInBounds_toArray, List.set_cons_zero, List.set_cons_succ]
    replace T := Lib.hid (T.out.keep (balloc Wq (.cells #[.int .i64 rn, .int .i64 0] 3)))
    have I14 := Lib.hid (Ints.lit20 Wq rn)
    generalize World.alloc _ _ = Wn at T I14 hHeld ⊢
    refine wpAnyH_ready (rs := [3, 6]) (by kernel_rfl) (by simp) (AllReadyH.cons (o := { dst := some 54, op := _, type := _, pos := _, after := _, guard := _ }) rfl (fun K hK => ?_) (AllReadyH.cons (o := { dst := some 57, op := _, type := _, pos := _, after := _, guard := _ }) rfl (fun K hK => ?_) AllReadyH.nil))
    · go_simp
      go_at_call 20; (with_reducible refine (HN1.out _ _ I14.out).mono ?_); rintro x wn ⟨rfl, hb⟩; replace T := Lib.hid (T.out.keep hb); clear hb
      try go_wp2_with fail
      refine hK.out _ _ (HS.out _ T.out) (fun hHeld => ?_)
      clear hK K
      try simp only [Act.put, List.setIfInBounds_toArray, List.set_cons_zero, List.set_cons_succ]
      refine wpAnyH_ready (rs := [6]) (by kernel_rfl) (by simp) (AllReadyH.cons (o := { dst := some 57, op := _, type := _, pos := _, after := _, guard := _ }) rfl (fun K hK => ?_) AllReadyH.nil)
      go_simp
      refine hK.out _ _ (HS.out _ (Lib.hid (T.out.keep (balloc wn (.cells (adC g).toArray 24)))).out) (fun hHeld => ?_)
      clear hK K
      try simp only [Act.put, List.setIfInBounds_toArray, List.set_cons_zero, List.set_cons_succ]
      replace T := Lib.hid (T.out.keep (balloc wn (.cells (adC g).toArray 24)))
      have A18 := Lib.hid (Ads.lit wn g HOG.out)
      generalize World.alloc _ _ = Wn at T A18 hHeld ⊢
      refine wpAnyH_ready (rs := [7]) (by kernel_rfl) (by simp) (AllReadyH.cons (o := { dst := some 58, op := _, type := _, pos := _, after := _, guard := _ }) rfl (fun K hK => ?_) AllReadyH.nil)
      go_simp
      go_at_call 63; (with_reducible refine (HA1.out _ _ A18.out).mono ?_); rintro x wn ⟨rfl, hb⟩; replace T := Lib.hid (T.out.keep hb); clear hb
      try go_wp2_with fail
      refine hK.out _ _ (HS.out _ T.out) (fun hHeld => ?_)
      clear hK K
      try simp only [Act.put, List.setIfInBounds_toArray, List.set_cons_zero, List.set_cons_succ]
      refine wpAnyH_take (i := 8) (oi := { dst := some 59, op := _, type := _, pos := _, after := _, guard := _ }) (v := ?v5) rfl (by kernel_rfl) (by kernel_rfl) (by kernel_rfl) (fun _ _ _ h => h) (Or.inl ⟨by rfl, ?y5⟩) (by assumption) ?r5
      case y5 => (intro w hSw; obtain ⟨s1, s2⟩ := hSw; go_simp; try with_reducible rfl)
      try simp only [Act.put, List.setIfInBounds_toArray, List.set_cons_zero, List.set_cons_succ]
      refine wpAnyH_take (i := 9) (oi := { dst := some 2, op := _, type := _, pos := _, after := _, guard := _ }) (v := ?v6) rfl (by kernel_rfl) (by kernel_rfl) (by kernel_rfl) (fun _ _ _ h => h) (Or.inl ⟨by rfl, ?y6⟩) (by assumption) ?r6
      case y6 => (intro w hSw; obtain ⟨s1, s2⟩ := hSw; go_simp; try with_reducible rfl)
      try simp only [Act.put, List.setIfInBounds_toArray, List.set_cons_zero, List.set_cons_succ]
      refine wpAnyH_done (by kernel_rfl) ?_ _
      go_wp2
      go_ret
      exact ⟨rfl, T.out.2⟩
    · go_simp
      refine hK.out _ _ (HS.out _ (Lib.hid (T.out.keep (balloc Wn (.cells (adC g).toArray 24)))).out) (fun hHeld => ?_)
      clear hK K
      try simp only [Act.put, List.setIfInBounds_toArray, List.set_cons_zero, List.set_cons_succ]
      replace T := Lib.hid (T.out.keep (balloc Wn (.cells (adC g).toArray 24)))
      replace I14 := Lib.hid (I14.out.below (balloc Wn (.cells (adC g).toArray 24)))
      have A18 := Lib.hid (Ads.lit Wn g HOG.out)
      generalize World.alloc _ _ = Wn at T I14 A18 hHeld ⊢
      refine wpAnyH_ready (rs := [3]) (by kernel_rfl) (by simp) (AllReadyH.cons (o := { dst := some 54, op := _, type := _, pos := _, after := _, guard := _ }) rfl (fun K hK => ?_) AllReadyH.nil)
      go_simp
      go_at_call 20; (with_reducible refine (HN1.out _ _ I14.out).mono ?_); rintro x wn ⟨rfl, hb⟩; replace T := Lib.hid (T.out.keep hb); replace A18 := Lib.hid (A18.out.below hb); clear hb
      try go_wp2_with fail
      refine hK.out _ _ (HS.out _ T.out) (fun hHeld => ?_)
      clear hK K
      try simp only [Act.put, List.setIfInBounds_toArray, List.set_cons_zero, List.set_cons_succ]
      refine wpAnyH_ready (rs := [7]) (by kernel_rfl) (by simp) (AllReadyH.cons (o := { dst := some 58, op := _, type := _, pos := _, after := _, guard := _ }) rfl (fun K hK => ?_) AllReadyH.nil)
      go_simp
      go_at_call 63; (with_reducible refine (HA1.out _ _ A18.out).mono ?_); rintro x wn ⟨rfl, hb⟩; replace T := Lib.hid (T.out.keep hb); clear hb
      try go_wp2_with fail
      refine hK.out _ _ (HS.out _ T.out) (fun hHeld => ?_)
      clear hK K
      try simp only [Act.put, List.setIfInBounds_toArray, List.set_cons_zero, List.set_cons_succ]
      refine wpAnyH_take (i := 8) (oi := { dst := some 59, op := _, type := _, pos := _, after := _, guard := _ }) (v := ?v7) rfl (by kernel_rfl) (by kernel_rfl) (by kernel_rfl) (fun _ _ _ h => h) (Or.inl ⟨by rfl, ?y7⟩) (by assumption) ?r7
      case y7 => (intro w hSw; obtain ⟨s1, s2⟩ := hSw; go_simp; try with_reducible rfl)
      try simp only [Act.put, List.setIfInBounds_toArray, List.set_cons_zero, List.set_cons_succ]
      refine wpAnyH_take (i := 9) (oi := { dst := some 2, op := _, type := _, pos := _, after := _, guard := _ }) (v := ?v8) rfl (by kernel_rfl) (by kernel_rfl) (by kernel_rfl) (fun _ _ _ h => h) (Or.inl ⟨by rfl, ?y8⟩) (by assumption) ?r8
      case y8 => (intro w hSw; obtain ⟨s1, s2⟩ := hSw; go_simp; try with_reducible rfl)
      try simp only [Act.put, List.setIfInBounds_toArray, List.set_cons_zero, List.set_cons_succ]
      refine wpAnyH_done (by kernel_rfl) ?_ _
      go_wp2
      go_ret
      exact ⟨rfl, T.out.2⟩
  · go_simp
    refine hK.out _ _ (HS.out _ (Lib.hid (T.out.keep (balloc Wq (.cells (adC g).toArray 24)))).out) (fun hHeld => ?_)
    clear hK K
    try simp only [Act.put, List.setIfInBounds_toArray, List.set_cons_zero, List.set_cons_succ]
    replace T := Lib.hid (T.out.keep (balloc Wq (.cells (adC g).toArray 24)))
    have A18 := Lib.hid (Ads.lit Wq g HOG.out)
    generalize World.alloc _ _ = Wn at T A18 hHeld ⊢
    refine wpAnyH_ready (rs := [2]) (by kernel_rfl) (by simp) (AllReadyH.cons (o := { dst := some 53, op := _, type := _, pos := _, after := _, guard := _ }) rfl (fun K hK => ?_) AllReadyH.nil)
    go_simp
    refine hK.out _ _ (HS.out _ (Lib.hid (T.out.keep (balloc Wn (.cells #[.int .i64 rn, .int .i64 0] 3)))).out) (fun hHeld => ?_)
    clear hK K
    try simp only [Act.put, List.setIfInBounds_toArray, List.set_cons_zero, List.set_cons_succ]
    replace T := Lib.hid (T.out.keep (balloc Wn (.cells #[.int .i64 rn, .int .i64 0] 3)))
    replace A18 := Lib.hid (A18.out.below (balloc Wn (.cells #[.int .i64 rn, .int .i64 0] 3)))
    have I14 := Lib.hid (Ints.lit20 Wn rn)
    generalize World.alloc _ _ = Wn at T A18 I14 hHeld ⊢
    refine wpAnyH_ready (rs := [3]) (by kernel_rfl) (by simp) (AllReadyH.cons (o := { dst := some 54, op := _, type := _, pos := _, after := _, guard := _ }) rfl (fun K hK => ?_) AllReadyH.nil)
    go_simp
    go_at_call 20; (with_reducible refine (HN1.out _ _ I14.out).mono ?_); rintro x wn ⟨rfl, hb⟩; replace T := Lib.hid (T.out.keep hb); replace A18 := Lib.hid (A18.out.below hb); clear hb
    try go_wp2_with fail
    refine hK.out _ _ (HS.out _ T.out) (fun hHeld => ?_)
    clear hK K
    try simp only [Act.put, List.setIfInBounds_toArray, List.set_cons_zero, List.set_cons_succ]
    refine wpAnyH_ready (rs := [7]) (by kernel_rfl) (by simp) (AllReadyH.cons (o := { dst := some 58, op := _, type := _, pos := _, after := _, guard := _ }) rfl (fun K hK => ?_) AllReadyH.nil)
    go_simp
    go_at_call 63; (with_reducible refine (HA1.out _ _ A18.out).mono ?_); rintro x wn ⟨rfl, hb⟩; replace T := Lib.hid (T.out.keep hb); clear hb
    try go_wp2_with fail
    refine hK.out _ _ (HS.out _ T.out) (fun hHeld => ?_)
    clear hK K
    try simp only [Act.put, List.setIfInBounds_toArray, List.set_cons_zero, List.set_cons_succ]
    refine wpAnyH_take (i := 8) (oi := { dst := some 59, op := _, type := _, pos := _, after := _, guard := _ }) (v := ?v9) rfl (by kernel_rfl) (by kernel_rfl) (by kernel_rfl) (fun _ _ _ h => h) (Or.inl ⟨by rfl, ?y9⟩) (by assumption) ?r9
    case y9 => (intro w hSw; obtain ⟨s1, s2⟩ := hSw; go_simp; try with_reducible rfl)
    try simp only [Act.put, List.setIfInBounds_toArray, List.set_cons_zero, List.set_cons_succ]
    refine wpAnyH_take (i := 9) (oi := { dst := some 2, op := _, type := _, pos := _, after := _, guard := _ }) (v := ?v10) rfl (by kernel_rfl) (by kernel_rfl) (by kernel_rfl) (fun _ _ _ h => h) (Or.inl ⟨by rfl, ?y10⟩) (by assumption) ?r10
    case y10 => (intro w hSw; obtain ⟨s1, s2⟩ := hSw; go_simp; try with_reducible rfl)
    try simp only [Act.put, List.setIfInBounds_toArray, List.set_cons_zero, List.set_cons_succ]
    refine wpAnyH_done (by kernel_rfl) ?_ _
    go_wp2
    go_ret
    exact ⟨rfl, T.out.2⟩
set_option maxRecDepth 100000 in
set_option maxHeartbeats 16000000 in
theorem rest13_core (v6 : Bool) (g : AD) (quiet : Bool) (rob every : Int) (src : List AD) (rcs : List RC) (us ur : Value) (w : World) (ho : adOk g) (rn : Nat) (x1 x2 y1 : List UInt8)
    (hn1 : ∀ W v, Ints W v [rn, 0] → Calls Tryz.prog 20 #[.int .i64 2, v] W fun x w' => x = .returned (.string (Str x1)) ∧ Below W.heap.size W w')
    (ha1 : ∀ W v, Ads W v [g] → Calls Tryz.prog 63 #[v] W fun x w' => x = .returned (.string (Str x2)) ∧ Below W.heap.size W w')
    (c1 : ∀ w, (Op.stringOp .add (Str x1) (Str x2)).run Tryz.prog w = .ok (.string (Str y1)) w) :
    Calls Tryz.prog 22 #[.agg (tkC ⟨v6, 1, 3, rn, g, quiet, rob, every, src, rcs⟩ us ur).toArray] w fun x w' => x = .returned (.string (Str y1)) ∧ Below w.heap.size w w' := by
  have T := Lib.hid (TB.made w ⟨v6, 1, 3, rn, g, quiet, rob, every, src, rcs⟩ us ur ho)
  have HS : Hid (∀ W, TB w W ⟨v6, 1, 3, rn, g, quiet, rob, every, src, rcs⟩ us ur → W.cell? ⟨w.heap.size, 3, none⟩ = some (.int .i64 rn) ∧ row? W w.heap.size 4 17 = some (adC g)) := Lib.hid fun W h => ⟨h.1.resp, h.1.rg⟩
  have HC : Hid (∀ W, TB w W ⟨v6, 1, 3, rn, g, quiet, rob, every, src, rcs⟩ us ur → W.cell? ⟨w.heap.size, 1, none⟩ = some (.int .i64 1) ∧ W.cell? ⟨w.heap.size, 2, none⟩ = some (.int .i64 3)) := Lib.hid fun W h => ⟨h.1.ver, h.1.kind⟩
  have HN1 := Lib.hid hn1
  have HA1 := Lib.hid ha1
  have HOG := Lib.hid ho
  have hlit := adsLit_run g ho
  have q21 : ∀ w0, (Op.equalIn 10000 55 (.agg #[.int .i64 1, .int .i64 3]) (.agg #[.int .i64 2, .int .i64 1])).run Tryz.prog w0 = .ok false w0 := fun w0 => by rw [eq_shp]; rfl
  have q22 : ∀ w0, (Op.equalIn 10000 55 (.agg #[.int .i64 1, .int .i64 3]) (.agg #[.int .i64 2, .int .i64 2])).run Tryz.prog w0 = .ok false w0 := fun w0 => by rw [eq_shp]; rfl
  clear hn1 ha1 ho
  generalize ht : (⟨v6, 1, 3, (rn : Int), g, quiet, rob, every, src, rcs⟩ : TK) = t at *
  clear ht
  go_enter Tryz.func22, Tryz.ntmps22
  go_upto_region 1 with (fail)
  generalize w.alloc (.cells (tkC t _ _).toArray 28) = W0 at T ⊢
  obtain ⟨d1, d2⟩ := HC.out _ T.out
  go_upto_region 6 with (fail)
  clear d1 d2 q21 q22 HC
  refine wp_region_held_drew (S := fun W => W.cell? ⟨w.heap.size, 3, none⟩ = some (.int .i64 rn) ∧ row? W w.heap.size 4 17 = some (adC g)) (by kernel_rfl) (HS.out _ (T.out.drewN 1)) (fun hHeld => ?_)
  replace T := Lib.hid (T.out.drewN 1)
  change Hid (TB w (World.drew _) _ _ _) at T
  generalize World.drew _ = Wq at T hHeld ⊢
  refine wpAnyH_take (i := 0) (oi := { dst := some 51, op := _, type := _, pos := _, after := _, guard := _ }) (v := ?v1) rfl (by kernel_rfl) (by kernel_rfl) (by kernel_rfl) (fun _ _ _ h => h) (Or.inl ⟨by rfl, ?y1⟩) (by assumption) ?r1
  case y1 => (intro w hSw; obtain ⟨s1, s2⟩ := hSw; go_simp; try with_reducible rfl)
  try simp only [Act.put, List.setIfInBounds_toArray, List.set_cons_zero, List.set_cons_succ]
  refine wpAnyH_take (i := 1) (oi := { dst := some 52, op := _, type := _, pos := _, after := _, guard := _ }) (v := ?v2) rfl (by kernel_rfl) (by kernel_rfl) (by kernel_rfl) (fun _ _ _ h => h) (Or.inl ⟨by rfl, ?y2⟩) (by assumption) ?r2
  case y2 => (intro w hSw; obtain ⟨s1, s2⟩ := hSw; go_simp; try with_reducible rfl)
  try simp only [Act.put, List.setIfInBounds_toArray, List.set_cons_zero, List.set_cons_succ]
  refine wpAnyH_take (i := 4) (oi := { dst := some 55, op := _, type := _, pos := _, after := _, guard := _ }) (v := ?v3) rfl (by kernel_rfl) (by kernel_rfl) (by kernel_rfl) (fun _ _ _ h => h) (Or.inl ⟨by rfl, ?y3⟩) (by assumption) ?r3
  case y3 => (intro w hSw; obtain ⟨s1, s2⟩ := hSw; go_simp; try with_reducible rfl)
  try simp only [Act.put, List.setIfInBounds_toArray, List.set_cons_zero, List.set_cons_succ]
  refine wpAnyH_take (i := 5) (oi := { dst := some 56, op := _, type := _, pos := _, after := _, guard := _ }) (v := ?v4) rfl (by kernel_rfl) (by kernel_rfl) (by kernel_rfl) (fun _ _ _ h => h) (Or.inl ⟨by rfl, ?y4⟩) (by assumption) ?r4
  case y4 => (intro w hSw; obtain ⟨s1, s2⟩ := hSw; go_simp; try with_reducible rfl)
  try simp only [Act.put, List.setIfInBounds_toArray, List.set_cons_zero, List.set_cons_succ]
  refine wpAnyH_ready (rs := [2, 6]) (by kernel_rfl) (by simp) (AllReadyH.cons (o := { dst := some 53, op := _, type := _, pos := _, after := _, guard := _ }) rfl (fun K hK => ?_) (AllReadyH.cons (o := { dst := some 57, op := _, type := _, pos := _, after := _, guard := _ }) rfl (fun K hK => ?_) AllReadyH.nil))
  · go_simp
    refine hK.out _ _ (HS.out _ (Lib.hid (T.out.keep (balloc Wq (.cells #[.int .i64 rn, .int .i64 0] 3)))).out) (fun hHeld => ?_)
    clear hK K
    try simp only [Act.put, List.setIfInBounds_toArray, List.set_cons_zero, List.set_cons_succ]
    replace T := Lib.hid (T.out.keep (balloc Wq (.cells #[.int .i64 rn, .int .i64 0] 3)))
    have I14 := Lib.hid (Ints.lit20 Wq rn)
    generalize World.alloc _ _ = Wn at T I14 hHeld ⊢
    refine wpAnyH_ready (rs := [3, 6]) (by kernel_rfl) (by simp) (AllReadyH.cons (o := { dst := some 54, op := _, type := _, pos := _, after := _, guard := _ }) rfl (fun K hK => ?_) (AllReadyH.cons (o := { dst := some 57, op := _, type := _, pos := _, after := _, guard := _ }) rfl (fun K hK => ?_) AllReadyH.nil))
    · go_simp
      go_at_call 20; (with_reducible refine (HN1.out _ _ I14.out).mono ?_); rintro x wn ⟨rfl, hb⟩; replace T := Lib.hid (T.out.keep hb); clear hb
      try go_wp2_with fail
      refine hK.out _ _ (HS.out _ T.out) (fun hHeld => ?_)
      clear hK K
      try simp only [Act.put, List.setIfInBounds_toArray, List.set_cons_zero, List.set_cons_succ]
      refine wpAnyH_ready (rs := [6]) (by kernel_rfl) (by simp) (AllReadyH.cons (o := { dst := some 57, op := _, type := _, pos := _, after := _, guard := _ }) rfl (fun K hK => ?_) AllReadyH.nil)
      go_simp
      refine hK.out _ _ (HS.out _ (Lib.hid (T.out.keep (balloc wn (.cells (adC g).toArray 24)))).out) (fun hHeld => ?_)
      clear hK K
      try simp only [Act.put, List.setIfInBounds_toArray, List.set_cons_zero, List.set_cons_succ]
      replace T := Lib.hid (T.out.keep (balloc wn (.cells (adC g).toArray 24)))
      have A18 := Lib.hid (Ads.lit wn g HOG.out)
      generalize World.alloc _ _ = Wn at T A18 hHeld ⊢
      refine wpAnyH_ready (rs := [7]) (by kernel_rfl) (by simp) (AllReadyH.cons (o := { dst := some 58, op := _, type := _, pos := _, after := _, guard := _ }) rfl (fun K hK => ?_) AllReadyH.nil)
      go_simp
      go_at_call 63; (with_reducible refine (HA1.out _ _ A18.out).mono ?_); rintro x wn ⟨rfl, hb⟩; replace T := Lib.hid (T.out.keep hb); clear hb
      try go_wp2_with fail
      refine hK.out _ _ (HS.out _ T.out) (fun hHeld => ?_)
      clear hK K
      try simp only [Act.put, List.setIfInBounds_toArray, List.set_cons_zero, List.set_cons_succ]
      refine wpAnyH_take (i := 8) (oi := { dst := some 59, op := _, type := _, pos := _, after := _, guard := _ }) (v := ?v5) rfl (by kernel_rfl) (by kernel_rfl) (by kernel_rfl) (fun _ _ _ h => h) (Or.inl ⟨by rfl, ?y5⟩) (by assumption) ?r5
      case y5 => (intro w hSw; obtain ⟨s1, s2⟩ := hSw; go_simp; try with_reducible rfl)
      try simp only [Act.put, List.setIfInBounds_toArray, List.set_cons_zero, List.set_cons_succ]
      refine wpAnyH_take (i := 9) (oi := { dst := some 2, op := _, type := _, pos := _, after := _, guard := _ }) (v := ?v6) rfl (by kernel_rfl) (by kernel_rfl) (by kernel_rfl) (fun _ _ _ h => h) (Or.inl ⟨by rfl, ?y6⟩) (by assumption) ?r6
      case y6 => (intro w hSw; obtain ⟨s1, s2⟩ := hSw; go_simp; try with_reducible rfl)
      try simp only [Act.put, List.setIfInBounds_toArray, List.set_cons_zero, List.set_cons_succ]
      refine wpAnyH_done (by kernel_rfl) ?_ _
      go_wp2
      go_ret
      exact ⟨rfl, T.out.2⟩
    · go_simp
      refine hK.out _ _ (HS.out _ (Lib.hid (T.out.keep (balloc Wn (.cells (adC g).toArray 24)))).out) (fun hHeld => ?_)
      clear hK K
      try simp only [Act.put, List.setIfInBounds_toArray, List.set_cons_zero, List.set_cons_succ]
      replace T := Lib.hid (T.out.keep (balloc Wn (.cells (adC g).toArray 24)))
      replace I14 := Lib.hid (I14.out.below (balloc Wn (.cells (adC g).toArray 24)))
      have A18 := Lib.hid (Ads.lit Wn g HOG.out)
      generalize World.alloc _ _ = Wn at T I14 A18 hHeld ⊢
      refine wpAnyH_ready (rs := [3]) (by kernel_rfl) (by simp) (AllReadyH.cons (o := { dst := some 54, op := _, type := _, pos := _, after := _, guard := _ }) rfl (fun K hK => ?_) AllReadyH.nil)
      go_simp
      go_at_call 20; (with_reducible refine (HN1.out _ _ I14.out).mono ?_); rintro x wn ⟨rfl, hb⟩; replace T := Lib.hid (T.out.keep hb); replace A18 := Lib.hid (A18.out.below hb); clear hb
      try go_wp2_with fail
      refine hK.out _ _ (HS.out _ T.out) (fun hHeld => ?_)
      clear hK K
      try simp only [Act.put, List.setIfInBounds_toArray, List.set_cons_zero, List.set_cons_succ]
      refine wpAnyH_ready (rs := [7]) (by kernel_rfl) (by simp) (AllReadyH.cons (o := { dst := some 58, op := _, type := _, pos := _, after := _, guard := _ }) rfl (fun K hK => ?_) AllReadyH.nil)
      go_simp
      go_at_call 63; (with_reducible refine (HA1.out _ _ A18.out).mono ?_); rintro x wn ⟨rfl, hb⟩; replace T := Lib.hid (T.out.keep hb); clear hb
      try go_wp2_with fail
      refine hK.out _ _ (HS.out _ T.out) (fun hHeld => ?_)
      clear hK K
      try simp only [Act.put, List.setIfInBounds_toArray, List.set_cons_zero, List.set_cons_succ]
      refine wpAnyH_take (i := 8) (oi := { dst := some 59, op := _, type := _, pos := _, after := _, guard := _ }) (v := ?v7) rfl (by kernel_rfl) (by kernel_rfl) (by kernel_rfl) (fun _ _ _ h => h) (Or.inl ⟨by rfl, ?y7⟩) (by assumption) ?r7
      case y7 => (intro w hSw; obtain ⟨s1, s2⟩ := hSw; go_simp; try with_reducible rfl)
      try simp only [Act.put, List.setIfInBounds_toArray, List.set_cons_zero, List.set_cons_succ]
      refine wpAnyH_take (i := 9) (oi := { dst := some 2, op := _, type := _, pos := _, after := _, guard := _ }) (v := ?v8) rfl (by kernel_rfl) (by kernel_rfl) (by kernel_rfl) (fun _ _ _ h => h) (Or.inl ⟨by rfl, ?y8⟩) (by assumption) ?r8
      case y8 => (intro w hSw; obtain ⟨s1, s2⟩ := hSw; go_simp; try with_reducible rfl)
      try simp only [Act.put, List.setIfInBounds_toArray, List.set_cons_zero, List.set_cons_succ]
      refine wpAnyH_done (by kernel_rfl) ?_ _
      go_wp2
      go_ret
      exact ⟨rfl, T.out.2⟩
  · go_simp
    refine hK.out _ _ (HS.out _ (Lib.hid (T.out.keep (balloc Wq (.cells (adC g).toArray 24)))).out) (fun hHeld => ?_)
    clear hK K
    try simp only [Act.put, List.setIfInBounds_toArray, List.set_cons_zero, List.set_cons_succ]
    replace T := Lib.hid (T.out.keep (balloc Wq (.cells (adC g).toArray 24)))
    have A18 := Lib.hid (Ads.lit Wq g HOG.out)
    generalize World.alloc _ _ = Wn at T A18 hHeld ⊢
    refine wpAnyH_ready (rs := [2]) (by kernel_rfl) (by simp) (AllReadyH.cons (o := { dst := some 53, op := _, type := _, pos := _, after := _, guard := _ }) rfl (fun K hK => ?_) AllReadyH.nil)
    go_simp
    refine hK.out _ _ (HS.out _ (Lib.hid (T.out.keep (balloc Wn (.cells #[.int .i64 rn, .int .i64 0] 3)))).out) (fun hHeld => ?_)
    clear hK K
    try simp only [Act.put, List.setIfInBounds_toArray, List.set_cons_zero, List.set_cons_succ]
    replace T := Lib.hid (T.out.keep (balloc Wn (.cells #[.int .i64 rn, .int .i64 0] 3)))
    replace A18 := Lib.hid (A18.out.below (balloc Wn (.cells #[.int .i64 rn, .int .i64 0] 3)))
    have I14 := Lib.hid (Ints.lit20 Wn rn)
    generalize World.alloc _ _ = Wn at T A18 I14 hHeld ⊢
    refine wpAnyH_ready (rs := [3]) (by kernel_rfl) (by simp) (AllReadyH.cons (o := { dst := some 54, op := _, type := _, pos := _, after := _, guard := _ }) rfl (fun K hK => ?_) AllReadyH.nil)
    go_simp
    go_at_call 20; (with_reducible refine (HN1.out _ _ I14.out).mono ?_); rintro x wn ⟨rfl, hb⟩; replace T := Lib.hid (T.out.keep hb); replace A18 := Lib.hid (A18.out.below hb); clear hb
    try go_wp2_with fail
    refine hK.out _ _ (HS.out _ T.out) (fun hHeld => ?_)
    clear hK K
    try simp only [Act.put, List.setIfInBounds_toArray, List.set_cons_zero, List.set_cons_succ]
    refine wpAnyH_ready (rs := [7]) (by kernel_rfl) (by simp) (AllReadyH.cons (o := { dst := some 58, op := _, type := _, pos := _, after := _, guard := _ }) rfl (fun K hK => ?_) AllReadyH.nil)
    go_simp
    go_at_call 63; (with_reducible refine (HA1.out _ _ A18.out).mono ?_); rintro x wn ⟨rfl, hb⟩; replace T := Lib.hid (T.out.keep hb); clear hb
    try go_wp2_with fail
    refine hK.out _ _ (HS.out _ T.out) (fun hHeld => ?_)
    clear hK K
    try simp only [Act.put, List.setIfInBounds_toArray, List.set_cons_zero, List.set_cons_succ]
    refine wpAnyH_take (i := 8) (oi := { dst := some 59, op := _, type := _, pos := _, after := _, guard := _ }) (v := ?v9) rfl (by kernel_rfl) (by kernel_rfl) (by kernel_rfl) (fun _ _ _ h => h) (Or.inl ⟨by rfl, ?y9⟩) (by assumption) ?r9
    case y9 => (intro w hSw; obtain ⟨s1, s2⟩ := hSw; go_simp; try with_reducible rfl)
    try simp only [Act.put, List.setIfInBounds_toArray, List.set_cons_zero, List.set_cons_succ]
    refine wpAnyH_take (i := 9) (oi := { dst := some 2, op := _, type := _, pos := _, after := _, guard := _ }) (v := ?v10) rfl (by kernel_rfl) (by kernel_rfl) (by kernel_rfl) (fun _ _ _ h => h) (Or.inl ⟨by rfl, ?y10⟩) (by assumption) ?r10
    case y10 => (intro w hSw; obtain ⟨s1, s2⟩ := hSw; go_simp; try with_reducible rfl)
    try simp only [Act.put, List.setIfInBounds_toArray, List.set_cons_zero, List.set_cons_succ]
    refine wpAnyH_done (by kernel_rfl) ?_ _
    go_wp2
    go_ret
    exact ⟨rfl, T.out.2⟩
end Go.Proofs.YtgpccgcppbdlpaaGreat
