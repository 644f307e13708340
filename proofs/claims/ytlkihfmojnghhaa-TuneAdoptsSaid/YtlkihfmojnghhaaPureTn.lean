/-
  Parameters of queriers, as plain numbers.
-/
import Derived.Test.YtlkihfmojnghhaaMg27
namespace Go.Proofs.Ytlkihfmojnghhaa

structure TN where
  rob : Int
  every : Int
  resp : Int
  last : Int
  cnt : Int
  deriving DecidableEq
def gdN (t : TN) : Bool := decide (1 ≤ t.rob ∧ t.rob ≤ 7 ∧ 1 ≤ t.cnt ∧ t.cnt ≤ 7 ∧ 1 ≤ t.every ∧ t.every ≤ 317440 ∧ 1 ≤ t.resp ∧ t.resp ≤ 31744 ∧ 1 ≤ t.last ∧ t.last ≤ 31744 ∧ t.resp ≤ t.every)
theorem gdN_iff {t : TN} : gdN t = true ↔ (1 ≤ t.rob ∧ t.rob ≤ 7 ∧ 1 ≤ t.cnt ∧ t.cnt ≤ 7 ∧ 1 ≤ t.every ∧ t.every ≤ 317440 ∧ 1 ≤ t.resp ∧ t.resp ≤ 31744 ∧ 1 ≤ t.last ∧ t.last ≤ 31744 ∧ t.resp ≤ t.every) := by
  unfold gdN; exact decide_eq_true_iff
def gapN (t : TN) : Int := if 1 < t.every / 4 then t.every / 4 else 1
def newV (v6 : Bool) : Int := if v6 then 2 else 3
def fullQ (q : TK) : Bool := decide (q.kind = 1 ∧ q.ver = newV q.v6)
def robQ (t : TN) (q : TK) : Int := if 0 < q.rob ∧ q.rob < 8 then q.rob else t.rob
def evQ (t : TN) (q : TK) : Int := if q.every ≤ 0 then t.every else if 31743 < q.every then 317440 else if 10 * q.every < t.resp then t.resp else 10 * q.every
def adoptN (t : TN) (q : TK) : TN := if fullQ q then ⟨robQ t q, evQ t q, t.resp, t.last, t.cnt⟩ else t
theorem adoptN_good {t : TN} {q : TK} (h : gdN t = true) : gdN (adoptN t q) = true := by
  rw [gdN_iff] at h ⊢
  unfold adoptN
  split
  · simp only [robQ, evQ]
    refine ⟨?_, ?_, h.2.2.1, h.2.2.2.1, ?_, ?_, h.2.2.2.2.2.2.1, h.2.2.2.2.2.2.2.1, h.2.2.2.2.2.2.2.2.1, h.2.2.2.2.2.2.2.2.2.1, ?_⟩ <;> repeat' split
    all_goals omega
  · exact h
def respQ (q : TK) : Int := if q.v6 then (if q.resp ≤ 0 then 0 else (q.resp + 99) / 100) else if q.ver = 1 then 100 else q.resp
def verQ (v6 : Bool) (n : Int) : Int := if n < 1 then 1 else if newV v6 < n then newV v6 else n
def queryV (t : TN) (v6 : Bool) (v : Int) : TK :=
  ⟨v6, v, 1, if v6 then (if v = 1 then min (100 * t.resp) 65535 else (valN (codeN (100 * t.resp) 4096 65535) 4096 : Int)) else if v = 2 then min t.resp 255 else if v = 3 then (valN (codeN t.resp 16 255) 16 : Int) else 0,
   (v6, z16), false, if v = newV v6 then t.rob else 0, if v = newV v6 then (valN (codeN (t.every / 10) 16 255) 16 : Int) else 0, [], []⟩
def queryT (t : TN) (v6 : Bool) (n : Int) : TK := queryV t v6 (verQ v6 n)
theorem verQ_in (v6 : Bool) (n : Int) : 1 ≤ verQ v6 n ∧ verQ v6 n ≤ newV v6 := by
  unfold verQ newV
  cases v6 <;> simp only [if_true, Bool.false_eq_true, if_false] <;> repeat' split
  all_goals omega
theorem exactV (n : Int) (u m : Nat) (hu : 0 < u) (hm : m < 16 * u) : exactN (valN (codeN n u m) u) u m = true := by
  unfold exactN
  rw [decide_eq_true_eq]
  exact ⟨Int.natCast_nonneg _, by rw [← codeN_uniq hu hm (IsCode.back hu hm (codeN_le n u m))]⟩
theorem valL (n : Int) (u m : Nat) (hu : 0 < u) (hn : 0 ≤ n) : (valN (codeN n u m) u : Int) ≤ n := (codeN_is n u m).low hu hn
theorem queryV_good {t : TN} (h : gdN t = true) (v6 : Bool) (v : Int) (h1 : 1 ≤ v) (h2 : v ≤ newV v6) : gdT (queryV t v6 v) = true := by
  rw [gdN_iff] at h
  obtain ⟨r1, r2, -, -, e1, e2, p1, p2, -, -, -⟩ := h
  have X8 := exactV t.resp 16 255 (by omega) (by omega)
  have X16 := exactV (100 * t.resp) 4096 65535 (by omega) (by omega)
  have XE := exactV (t.every / 10) 16 255 (by omega) (by omega)
  have L16 : 0 ≤ (valN (codeN (100 * t.resp) 4096 65535) 4096 : Int) := Int.natCast_nonneg _
  have s0 : srcs8 [] = true := by decide
  have s9 : srcs9 [] = true := by decide
  have z0 : (false, z16) = zeroA := by decide
  have z9 : zer9 (true, z16) = true := by decide
  unfold gdT queryV
  generalize (valN (codeN t.resp 16 255) 16 : Int) = a at *
  generalize (valN (codeN (100 * t.resp) 4096 65535) 4096 : Int) = b at *
  generalize (valN (codeN (t.every / 10) 16 255) 16 : Int) = e at *
  cases v6 with
  | false =>
    unfold newV at *
    simp only [Bool.false_eq_true, if_false] at *
    have hv : v = 1 ∨ v = 2 ∨ v = 3 := by omega
    rw [Bool.or_eq_true]
    left
    unfold good8
    rcases hv with rfl | rfl | rfl
    · simp [z0]
    · simp [z0]; omega
    · simp [z0, X8, XE, s0]; omega
  | true =>
    unfold newV at *
    simp only [if_true] at *
    have hv : v = 1 ∨ v = 2 := by omega
    rw [Bool.or_eq_true]
    right
    unfold good9
    rcases hv with rfl | rfl
    · simp [z9]; omega
    · simp [z9, X16, XE, s9]; omega
theorem queryV_resp {t : TN} (h : gdN t = true) (v6 : Bool) (v : Int) (h1 : 1 ≤ v) (h2 : v ≤ newV v6) : respQ (queryV t v6 v) ≤ t.resp ∨ (v6 = false ∧ v = 1) := by
  rw [gdN_iff] at h
  obtain ⟨r1, r2, -, -, e1, e2, p1, p2, -, -, -⟩ := h
  have L8 := valL t.resp 16 255 (by omega) (by omega)
  have L16 := valL (100 * t.resp) 4096 65535 (by omega) (by omega)
  unfold respQ queryV
  generalize (valN (codeN t.resp 16 255) 16 : Int) = a at *
  generalize (valN (codeN (100 * t.resp) 4096 65535) 4096 : Int) = b at *
  cases v6 with
  | false =>
    unfold newV at *
    simp only [Bool.false_eq_true, if_false] at *
    have hv : v = 1 ∨ v = 2 ∨ v = 3 := by omega
    rcases hv with rfl | rfl | rfl
    · right; simp
    · left; simp; omega
    · left; simp; omega
  | true =>
    unfold newV at *
    simp only [if_true] at *
    have hv : v = 1 ∨ v = 2 := by omega
    left
    rcases hv with rfl | rfl
    · simp; split <;> omega
    · simp; split <;> omega
/-- A good query of MLD is answered within so many tenths. -/
theorem respQ_bound {q : TK} (h : gdT q = true) (hk : q.kind = 1) : 0 ≤ q.resp ∧ q.resp ≤ 8388608 := by
  cases hv : q.v6 with
  | true =>
    obtain ⟨h9, -⟩ := gdT_v6 h hv
    obtain ⟨-, c | c | c | c⟩ := good9_cases q h9
    · omega
    · omega
    · omega
    · have := c.2.2.1
      unfold exactN at this
      rw [decide_eq_true_eq] at this
      have b := valN_bound (u := 4096) (by omega) (Nat.lt_of_le_of_lt (codeN_le q.resp 4096 65535) (by omega : 65535 < 16 * 4096))
      omega
  | false =>
    obtain ⟨h8, -⟩ := gdT_v4 h hv
    unfold good8 at h8
    split at h8
    · cases h8
    split at h8
    · cases h8
    split at h8
    · cases h8
    rw [if_neg (by omega), if_neg (by omega), if_neg (by omega)] at h8
    split at h8
    · simp at h8; omega
    split at h8
    · cases h8
    split at h8
    · simp at h8; omega
    · simp only [Bool.and_eq_true] at h8
      have := h8.1
      unfold exactN at this
      rw [decide_eq_true_eq] at this
      have b := valN_bound (u := 16) (by omega) (Nat.lt_of_le_of_lt (codeN_le q.resp 16 255) (by omega : 255 < 16 * 16))
      omega
end Go.Proofs.Ytlkihfmojnghhaa
