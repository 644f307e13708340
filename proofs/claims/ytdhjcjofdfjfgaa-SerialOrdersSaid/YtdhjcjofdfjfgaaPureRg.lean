/-
  Numbers that go round, as the document has them: on a ring of 2^32.
-/
import Derived.Test.YtdhjcjofdfjfgaaBase
namespace Go.Proofs.Ytdhjcjofdfjfgaa

def addI (n k : Int) : Int := (n + k) % 4294967296
def gapI (a b : Int) : Int := if 2147483648 ≤ (b - a) % 4294967296 then (b - a) % 4294967296 - 4294967296 else (b - a) % 4294967296
def inI (n f wide : Int) : Bool := decide ((n - f) % 4294967296 < (if 2147483647 < wide then 2147483647 else wide))
def lateI (a : Int) (l : List Int) : Int := l.foldl (fun c x => if 0 < gapI c x then x else c) a
theorem addI_lo (n k : Int) : 0 ≤ addI n k := by unfold addI; omega
theorem addI_hi (n k : Int) : addI n k < 4294967296 := by unfold addI; omega
theorem addI_gap (a b : Int) (h0 : 0 ≤ b) (h1 : b < 4294967296) : addI a (gapI a b) = b := by unfold addI gapI; split <;> omega
theorem addI_back (a k : Int) (h0 : 0 ≤ a) (h1 : a < 4294967296) (m : Int) (hm : m = -k ∨ m = -k - 18446744073709551616) : addI (addI a k) m = a := by unfold addI; omega
theorem gapI_add (a k : Int) (h0 : 0 ≤ k) (h1 : k < 2147483648) : gapI a (addI a k) = k := by
  unfold gapI addI
  rw [show ((a + k) % 4294967296 - a) % 4294967296 = k by omega, if_neg (by omega)]
theorem gapI_off (a x y : Int) (h0 : 0 ≤ y) (h1 : y < 2147483648) : gapI (addI a x) (addI a (x + y)) = y := by
  have h : addI a (x + y) = addI (addI a x) y := by unfold addI; omega
  rw [h, gapI_add _ _ h0 h1]
/-- Backwards it is the other way round, but for the farthest. -/
theorem gapI_neg (a b : Int) (h : gapI a b ≠ -2147483648) : gapI b a = - gapI a b := by
  unfold gapI at *
  split at h <;> split <;> omega
theorem inI_self (f wide : Int) : inI f f wide = decide (0 < wide) := by
  unfold inI
  have h : (f - f) % 4294967296 = 0 := by omega
  rw [h]
  by_cases h2 : 2147483647 < wide
  · rw [if_pos h2]; exact (decide_eq_true (by omega)).trans (decide_eq_true (by omega)).symm
  · rw [if_neg h2]
/-- Of numbers that are near one another the latest is the one that is most ahead. -/
theorem lateI_near (a : Int) : ∀ (l : List Int) (x : Int), (∀ y ∈ l, 0 ≤ y ∧ y < 65536) → 0 ≤ x → x < 65536 → lateI (addI a x) (l.map (addI a)) = addI a (l.foldl max x)
  | [], _, _, _, _ => rfl
  | y :: r, x, h, h0, h1 => by
    have hy := h y List.mem_cons_self
    have hg : 0 < gapI (addI a x) (addI a y) ↔ x < y := by
      by_cases hxy : x ≤ y
      · have := gapI_off a x (y - x) (by omega) (by omega)
        rw [show x + (y - x) = y by omega] at this
        rw [this]; omega
      · have h2 := gapI_off a y (x - y) (by omega) (by omega)
        rw [show y + (x - y) = x by omega] at h2
        have h3 := gapI_neg (addI a y) (addI a x) (by rw [h2]; omega)
        rw [h3, h2]; omega
    show lateI (if 0 < gapI (addI a x) (addI a y) then addI a y else addI a x) (r.map (addI a)) = _
    rw [List.foldl_cons]
    by_cases hxy : x < y
    · rw [if_pos (hg.2 hxy), show max x y = y by omega]
      exact lateI_near a r y (fun z hz => h z (List.mem_cons_of_mem _ hz)) hy.1 hy.2
    · rw [if_neg (fun e => hxy (hg.1 e)), show max x y = x by omega]
      exact lateI_near a r x (fun z hz => h z (List.mem_cons_of_mem _ hz)) h0 h1
end Go.Proofs.Ytdhjcjofdfjfgaa
