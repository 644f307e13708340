/-
  Talks of many sources or records, of layer 9: whether they are good, and what is read of their bytes.
-/
import Derived.Test.YtgpccgcppbdlpaaMlM
namespace Go.Proofs.Ytgpccgcppbdlpaa
open Go.RowKit
set_option linter.unusedVariables false

theorem long_q9 (P : List UInt8) (hP : P.length % 2 = 0) (t : TK) (ho : t.ok) (h2 : t.ver = 2) (hk : t.kind = 1) (hg : grp9 t.g = true) (hl : 64 < t.src.length) (hl2 : t.src.length < 65536) : readM P (wrtM P t) = (zeroT, 6) := by
  have hkk := kindM_one hk
  have hre : respM t = codeN t.resp 4096 65535 := by unfold respM; rw [if_pos ⟨hk, h2⟩]
  have hc1 := codeN_le t.resp 4096 65535
  obtain ⟨b0, _⟩ := wrtM_parts P t (by omega)
  obtain ⟨X, hX⟩ : ∃ X, X = putL (flagT t) 1 ++ (putL (codeN t.every 16 255) 1 ++ (putL t.src.length 2 ++ listL t.src)) := ⟨_, rfl⟩
  obtain ⟨p1, p2, p3, H, hH, hW⟩ := one_parts P t ho.1 (grp9_v hg) (by omega) (by omega) X (by rw [if_pos ⟨hk, h2⟩]; exact hX) (by omega)
  have hsum := wrtM_sum P hP t
  have hXl : 4 ≤ X.length := by rw [hX]; simp [putL_length]; omega
  have w26 : wd (wrtM P t) 26 = t.src.length := by
    have := wd_at H X 2
    rw [← hW, hH] at this
    rw [show 26 = 24 + 2 from rfl, this, hX, putL_one, putL_one, putL_tw]
    have h := num2_putL t.src.length (by omega)
    rw [putL_tw] at h
    exact h
  have hz := grp9_zer hg
  unfold readM
  rw [if_neg (by omega), if_neg (by rw [hsum]; simp), b0, if_pos (by omega)]
  unfold one9 srcsE9
  rw [p2, b0, hkk, hg, hz, w26, if_neg (by omega), if_neg (by omega), if_neg (by rintro ⟨h3, _⟩; exact absurd h3 (by simp)), if_neg (by simp), if_neg (by omega), if_neg (by rintro ⟨h3, _⟩; exact absurd h3 (by simp)), if_pos hl, if_pos (by omega)]
theorem long_r9 (P : List UInt8) (hP : P.length % 2 = 0) (t : TK) (h3 : t.ver = 2) (h2 : t.kind = 2) (hl : 64 < t.rcs.length) (hl2 : t.rcs.length < 65536) : readM P (wrtM P t) = (zeroT, 6) := by
  have hk : kindM t = 143 := by unfold kindM; rw [if_pos ⟨h2, h3⟩]
  obtain ⟨b0, H, hH, hW⟩ := wrtM_parts P t (by omega)
  have bl := wrtM_length P t
  have hsum := wrtM_sum P hP t
  have hR : restM t = putL t.rcs.length 4 ++ (t.rcs.map recB).flatten := by unfold restM; rw [if_pos ⟨h2, h3⟩]
  have hp4 : putL t.rcs.length 4 = [0, 0] ++ putL t.rcs.length 2 := by
    rw [putL_tw]
    simp only [putL, List.cons_append, List.nil_append, List.cons.injEq, and_true]
    refine ⟨?_, ?_, ?_, ?_⟩ <;>
    first
    | trivial
    | (apply UInt8.toNat_inj.1
       simp only [UInt8.toNat_ofNat', UInt8.toNat_zero]
       omega)
  have hw6 : wd (wrtM P t) 6 = t.rcs.length := by
    rw [hW, hR, hp4]
    have := wd_at (H ++ [0, 0]) (putL t.rcs.length 2 ++ (t.rcs.map recB).flatten) 0
    have h6 : (H ++ ([0, 0] : List UInt8)).length + 0 = 6 := by simp [hH]
    rw [h6] at this
    rw [show H ++ ([0, 0] ++ putL t.rcs.length 2 ++ (t.rcs.map recB).flatten) = H ++ [0, 0] ++ (putL t.rcs.length 2 ++ (t.rcs.map recB).flatten) by simp, this]
    unfold wd
    rw [List.drop_zero, take_app (putL_length _ 2), num2_putL _ (by omega)]
  have hlen : 8 ≤ (wrtM P t).length := by rw [bl, hR, List.length_append, putL_length]; omega
  unfold readM
  rw [if_neg (by omega), if_neg (by rw [hsum]; simp), b0, hk, if_neg (by omega), if_pos rfl, hw6, if_pos hl]
theorem grp_gA9 : grp9 gA9 = true := by decide
theorem exact09 (u m : Nat) (hu : 0 < u) (hm : m < 16 * u) : exactN 0 u m = true := by
  have := exact_valN 0 u m hu hm (by omega)
  rw [valN_zero u hu] at this
  exact this
theorem repT9_ok (k : Nat) : (repT9 k).ok := ⟨zeroA_ok, fun a h => (by cases h), fun r h => by
  obtain ⟨_, rfl⟩ := List.mem_replicate.1 h
  exact ⟨gA9_ok, fun a h => by cases h⟩⟩
theorem qryT9_ok (k : Nat) : (qryT9 k).ok := ⟨gA9_ok, fun a h => by
  obtain ⟨i, _, rfl⟩ := List.mem_map.1 h
  exact srcA9_ok i, fun r h => by cases h⟩
theorem sum_rep9 (k a : Nat) : (List.replicate k a).sum = k * a := by
  induction k with
  | zero => simp
  | succ k ih => rw [List.replicate_succ, List.sum_cons, ih, Nat.succ_mul, Nat.add_comm]
theorem repT9_size (k : Nat) : sizeR9 (List.replicate k (⟨2, gA9, []⟩ : RC)) = 20 * k + 8 := by
  unfold sizeR9
  rw [List.map_replicate, sum_rep9]
  simp; omega
theorem repT9_good (k : Nat) : good9 (repT9 k) = decide (k ≤ 64) := by
  unfold good9
  rw [if_neg (by simp [repT9]), if_neg (by simp [repT9]), if_pos (show (repT9 k).ver = 2 ∧ (repT9 k).kind = 2 from ⟨rfl, rfl⟩)]
  have h1 : (repT9 k).rcs.all recOk9 = true := by
    rw [List.all_eq_true]
    intro r hr
    obtain ⟨_, rfl⟩ := List.mem_replicate.1 hr
    decide
  have h2 : sizeR9 (repT9 k).rcs = 20 * k + 8 := repT9_size k
  have h3 : (repT9 k).rcs.length = k := by show (List.replicate k _).length = k; rw [List.length_replicate]
  rw [h1, h2, h3, decide_eq_true (show (repT9 k).g.1 = false from rfl), decide_eq_true (show (repT9 k).g.2 = z16 from rfl), Bool.eq_iff_iff]
  simp; omega
theorem qryT9_good (k : Nat) : good9 (qryT9 k) = decide (k ≤ 64) := by
  unfold good9
  have hl : (qryT9 k).src.length = k := by show ((List.range k).map srcA9).length = k; simp
  have h1 : (qryT9 k).src.all (·.1) = true := by
    rw [List.all_eq_true]
    intro r hr
    obtain ⟨i, _, rfl⟩ := List.mem_map.1 hr
    rfl
  have hz : zer9 (qryT9 k).g = false := show zer9 gA9 = false by decide
  have hg : grp9 (qryT9 k).g = true := grp_gA9
  rw [if_neg (by simp [qryT9]), if_neg (by simp [qryT9]), if_neg (by simp [qryT9]), if_neg (by simp [qryT9]), if_neg (by simp [qryT9]), if_neg (by rintro (⟨_, h⟩ | h); rw [hg] at h; exact absurd h (by simp); exact absurd h (by simp [qryT9])), if_neg (by simp [qryT9])]
  have hx : exactN (qryT9 k).resp 4096 65535 = true := exact09 4096 65535 (by omega) (by omega)
  have hy : exactN (qryT9 k).every 16 255 = true := exact09 16 255 (by omega) (by omega)
  rw [hx, hy, hz, decide_eq_true (show 0 ≤ (qryT9 k).rob ∧ (qryT9 k).rob < 8 by simp [qryT9])]
  unfold srcs9
  rw [h1, hl, Bool.eq_iff_iff]
  simp; omega
theorem wrtM_rep_le (P : List UInt8) (k : Nat) (hk : k ≤ 100) : (wrtM P (repT9 k)).length ≤ 100000 := by
  have hR : restM (repT9 k) = putL (repT9 k).rcs.length 4 ++ ((repT9 k).rcs.map recB).flatten := by unfold restM; rw [if_pos ⟨rfl, rfl⟩]
  have h8 : (recB (⟨2, gA9, []⟩ : RC)).length = 20 := by decide
  have hf : (((repT9 k).rcs.map recB).flatten).length = k * 20 := by
    show (((List.replicate k (⟨2, gA9, []⟩ : RC)).map recB).flatten).length = k * 20
    rw [List.map_replicate, List.length_flatten, List.map_replicate, sum_rep9, h8]
  rw [wrtM_length, hR, List.length_append, putL_length, hf]
  omega
theorem wrtM_qry_le (P : List UInt8) (k : Nat) (hk : k ≤ 100) : (wrtM P (qryT9 k)).length ≤ 100000 := by
  have hl := listL_le (qryT9_ok k).2.1
  have hs : (qryT9 k).src.length = k := by show ((List.range k).map srcA9).length = k; simp
  rw [hs] at hl
  have hb := adB_le (qryT9_ok k).1
  rw [wrtM_length]
  unfold restM
  rw [if_neg (by simp [qryT9]), if_pos ⟨rfl, rfl⟩]
  simp [putL_length]
  omega
end Go.Proofs.Ytgpccgcppbdlpaa
