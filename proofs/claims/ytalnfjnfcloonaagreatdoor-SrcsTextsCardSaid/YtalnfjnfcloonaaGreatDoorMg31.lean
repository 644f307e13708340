/-
  Texts joined: Printb, Rprm, PureScan, PurePr.
-/
import Derived.Test.YtalnfjnfcloonaaGreatDoorPrint
import Derived.Test.YtalnfjnfcloonaaGreatDoorMg26
import Derived.Test.YtalnfjnfcloonaaGreatDoorMg29
import Derived.Lib.Join
/-
  The contracts of addr.Print and addr.PrintMac.
-/
namespace Go.Proofs.YtalnfjnfcloonaaGreatDoor
open Go.RowKit
set_option linter.unusedVariables false
attribute [local go_sem ↓] ld_addr
attribute [local go_sem] ldr_addr

theorem joinBn (sb o cap n : Nat) (ns : List Nat) (hn : ns.length = n) (hns : ∀ n ∈ ns, n ≤ 255) (hlen : n ≤ 100) (w : World) (hrow : RowN .u8 w sb o ns) (hsb : sb < w.heap.size) (h : Env w) :
    Calls Tryz.prog 34 #[.slice (some ⟨sb, o, none⟩) n cap, .string (Str [46]), .int .i64 10] w fun e w' => e = .returned (.string (Str (jn10 ns))) ∧ Below w.heap.size w w' := by
  subst hn; exact joinB_any sb o cap ns hns hlen w hrow hsb h
set_option maxRecDepth 100000 in
set_option maxHeartbeats 1000000 in
theorem print_any (v : Bool) (l : List UInt8) (hl : l.length = 16) (w : World) (h : Env w) : Calls Tryz.prog 18 #[.agg (addrC v l).toArray] w fun e w' => e = .returned (.string (Str (prtV v l))) ∧ Below w.heap.size w w' := by
  have HE := Lib.hid h; clear h
  have HB := Lib.hid (BoxAt.made w v l hl 36)
  have HL := Lib.hid hl
  clear hl
  go_enter Tryz.func18, Tryz.ntmps18
  go_upto_region 1 with (fail)
  have hbx := HB.out
  clear HB
  generalize w.alloc (.cells (addrC v l).toArray 36) = W at hbx ⊢
  have HB := Lib.hid hbx
  obtain ⟨k0, -, k2, -, -⟩ := hbx
  cases v with
  | true =>
    go_wp2_with (go_at_call 33; refine (print6_any l HL.out _ (HE.out.below HB.out.2.2.2.2)).mono ?_; rintro e w1 ⟨rfl, hb1⟩; have HB1 := Lib.hid (bstep HB.out.2.2.2.2 hb1); clear hb1)
    go_ret
    exact ⟨rfl, HB1.out⟩
  | false =>
    clear k2
    have C := Lib.hid (joinBn w.heap.size 1 16 4 ((l.take 4).map (·.toNat)) (by rw [List.length_map, List.length_take, HL.out]; rfl) (fun n hn => by obtain ⟨b, _, rfl⟩ := List.mem_map.1 hn; have := b.toNat_lt; omega) (by omega) W (fun i hi => by
      have hi4 : i < 4 := by simp at hi; omega
      have := HB.out.2.1 i (by rw [HL.out]; omega)
      rw [this]; simp) HB.out.2.2.2.1 (HE.out.below HB.out.2.2.2.2))
    go_wp2_with (go_at_call 34; refine C.out.mono ?_; rintro e w1 ⟨rfl, hb1⟩; have HB1 := Lib.hid (bstep HB.out.2.2.2.2 hb1); clear hb1)
    go_ret
    exact ⟨by rw [← List.map_take]; rfl, HB1.out⟩

def MacSt (w wr : World) (l : List UInt8) (j g cap : Nat) : Prop :=
  wr.ownsRow w.heap.size 9 1 (.slice (some ⟨g, 0, none⟩) j cap) j ((l.take j).map fun b => Value.string (Str (hexL [b]))) ∧ Below w.heap.size w wr
theorem MacSt.below {w wr w2 : World} {l : List UInt8} {j g cap : Nat} (h : MacSt w wr l j g cap) (hb : Below wr.heap.size wr w2) : MacSt w w2 l j g cap := ⟨own_below h.1 hb, bstep h.2 hb⟩
end Go.Proofs.YtalnfjnfcloonaaGreatDoor

/-
  The document's own text of an address of Ethernet.
-/
namespace Go.Proofs.YtalnfjnfcloonaaGreatDoor
open Go.RowKit
set_option linter.unusedVariables false

theorem join_snoc (sep y : List UInt8) : ∀ xs : List (List UInt8), xs ≠ [] → Lib.join (xs ++ [y]) sep = Lib.join xs sep ++ (sep ++ y)
  | [], h => absurd rfl h
  | [x], _ => by simp [Lib.join, List.intercalate]
  | x :: z :: r, _ => by
    have ih := join_snoc sep y (z :: r) (by simp)
    have e1 : ∀ (a b : List UInt8) (t : List (List UInt8)), Lib.join (a :: b :: t) sep = a ++ (sep ++ Lib.join (b :: t) sep) := fun a b t => by simp [Lib.join, List.intercalate]
    rw [List.cons_append, List.cons_append, e1, ← List.cons_append, ih, e1]
    simp
end Go.Proofs.YtalnfjnfcloonaaGreatDoor

/-
  The longest run of zeros, looked for in two ways: plain mathematics.
-/
namespace Go.Proofs.YtalnfjnfcloonaaGreatDoor
open Go.RowKit
set_option linter.unusedVariables false

/-- How many zeros a list begins with. -/
def runZ : List Nat → Nat
  | [] => 0
  | n :: r => if n = 0 then runZ r + 1 else 0
theorem runZ_step : ∀ (L : List Nat) (k : Nat), k ≤ runZ L → L[k]? = some 0 → k + 1 ≤ runZ L
  | [], k, _, h => by simp at h
  | n :: r, 0, _, h => by
    simp at h
    unfold runZ
    rw [if_pos h]; omega
  | n :: r, k + 1, hk, h => by
    unfold runZ at hk ⊢
    split at hk
    · rename_i hn
      rw [if_pos hn]
      have := runZ_step r k (by omega) (by simpa using h)
      omega
    · omega
theorem runZ_stop : ∀ (L : List Nat) (k : Nat), k ≤ runZ L → L[k]? ≠ some 0 → k = runZ L
  | [], k, h, _ => by unfold runZ at h ⊢; omega
  | n :: r, 0, _, h => by
    simp at h
    unfold runZ
    rw [if_neg h]
  | n :: r, k + 1, hk, h => by
    unfold runZ at hk ⊢
    split at hk
    · rename_i hn
      rw [if_pos hn]
      have := runZ_stop r k (by omega) (by simpa using h)
      omega
    · omega
/-- What the document looks for: where the longest run begins, if one is of two at the least, and how long it is. -/
def scanZ (ws : List Nat) : Nat → Int × Nat
  | 0 => (-1, 1)
  | i + 1 => if (scanZ ws i).2 < runZ (ws.drop i) then ((i : Int), runZ (ws.drop i)) else scanZ ws i

/-! The same over the pattern of zeros. -/
def runB : List Bool → Nat
  | [] => 0
  | n :: r => if n then runB r + 1 else 0
def scanB (ws : List Bool) : Nat → Int × Nat
  | 0 => (-1, 1)
  | i + 1 => if (scanB ws i).2 < runB (ws.drop i) then ((i : Int), runB (ws.drop i)) else scanB ws i
def gapBst (i : Nat) (n : Bool) (st : Nat × Nat × Nat) : Nat × Nat × Nat :=
  let run := if n then st.2.2 + 1 else 0
  if st.2.1 < run then (i + 1 - run, run, run) else (st.1, st.2.1, run)
def gapB (ws : List Bool) : Nat → Nat × Nat × Nat
  | 0 => (0, 0, 0)
  | k + 1 => gapBst k (ws.getD k false) (gapB ws k)
def zsB (ws : List Nat) : List Bool := ws.map fun n => decide (n = 0)
theorem runZ_B : ∀ L : List Nat, runZ L = runB (zsB L)
  | [] => rfl
  | n :: r => by
    have ih := runZ_B r
    unfold zsB at ih ⊢
    by_cases h : n = 0 <;> simp [runZ, runB, h, ih]
theorem scanZ_B (ws : List Nat) : ∀ i, scanZ ws i = scanB (zsB ws) i
  | 0 => rfl
  | i + 1 => by
    have ih := scanZ_B ws i
    have e : runZ (ws.drop i) = runB ((zsB ws).drop i) := by rw [runZ_B]; unfold zsB; rw [List.map_drop]
    simp only [scanZ, scanB, ih, e]
theorem gapK_B (ws : List Nat) : ∀ k, gapK ws k = gapB (zsB ws) k
  | 0 => rfl
  | k + 1 => by
    have ih := gapK_B ws k
    have e : ((zsB ws).getD k false) = decide (ws.getD k 1 = 0) := by
      unfold zsB
      rw [List.getD_eq_getElem?_getD, List.getD_eq_getElem?_getD, List.getElem?_map]
      cases ws[k]? <;> simp
    simp only [gapK, gapB, gapSt, gapBst, ih, e, decide_eq_true_eq]
theorem list8 {α : Type} {l : List α} (h : l.length = 8) : ∃ b0 b1 b2 b3 b4 b5 b6 b7, l = [b0, b1, b2, b3, b4, b5, b6, b7] := by
  match l, h with
  | [b0, b1, b2, b3, b4, b5, b6, b7], _ => exact ⟨b0, b1, b2, b3, b4, b5, b6, b7, rfl⟩
def agree (ws : List Bool) : Bool := if (gapB ws 8).2.1 < 2 then decide (scanB ws 8 = (-1, 1)) else decide (scanB ws 8 = ((((gapB ws 8).1 : Nat) : Int), (gapB ws 8).2.1) ∧ (gapB ws 8).1 + (gapB ws 8).2.1 ≤ 8)
theorem agree_all (b0 b1 b2 b3 b4 b5 b6 b7 : Bool) : agree [b0, b1, b2, b3, b4, b5, b6, b7] = true := by
  revert b0 b1 b2 b3 b4 b5 b6 b7
  decide +kernel
theorem scan_gap (ws : List Nat) (h : ws.length = 8) : ((gapK ws 8).2.1 < 2 ∧ scanZ ws 8 = (-1, 1)) ∨ (2 ≤ (gapK ws 8).2.1 ∧ scanZ ws 8 = (((gapK ws 8).1 : Int), (gapK ws 8).2.1) ∧ (gapK ws 8).1 + (gapK ws 8).2.1 ≤ 8) := by
  rw [gapK_B, scanZ_B]
  obtain ⟨b0, b1, b2, b3, b4, b5, b6, b7, e⟩ := list8 (l := zsB ws) (by unfold zsB; rw [List.length_map, h])
  rw [e]
  have ha := agree_all b0 b1 b2 b3 b4 b5 b6 b7
  unfold agree at ha
  generalize gapB [b0, b1, b2, b3, b4, b5, b6, b7] 8 = G at *
  generalize scanB [b0, b1, b2, b3, b4, b5, b6, b7] 8 = S at *
  split at ha
  · rename_i h2
    exact .inl ⟨h2, by simpa using ha⟩
  · rename_i h2
    rw [decide_eq_true_eq] at ha
    exact .inr ⟨by omega, ha.1, ha.2⟩
end Go.Proofs.YtalnfjnfcloonaaGreatDoor

/-
  Numbers in digits with colons between, and a run of zeros left out: plain mathematics.
-/
namespace Go.Proofs.YtalnfjnfcloonaaGreatDoor
open Go.RowKit
set_option linter.unusedVariables false

def jnD (D : Nat → List UInt8) (ws : List Nat) : List UInt8 := Lib.join (ws.map D) [58]
theorem jnD_cons2 (D : Nat → List UInt8) (a b : Nat) (r : List Nat) : jnD D (a :: b :: r) = D a ++ (58 :: jnD D (b :: r)) := by simp [jnD, Lib.join, List.intercalate]
theorem jnD_one (D : Nat → List UInt8) (a : Nat) : jnD D [a] = D a := by simp [jnD, Lib.join_one]
theorem jnD_snoc (D : Nat → List UInt8) (y : Nat) : ∀ xs : List Nat, xs ≠ [] → jnD D (xs ++ [y]) = jnD D xs ++ (58 :: D y)
  | [], h => absurd rfl h
  | [x], _ => by rw [jnD_one]; exact (jnD_cons2 D x y []).trans (by rw [jnD_one])
  | x :: z :: r, _ => by
    have ih := jnD_snoc D y (z :: r) (by simp)
    rw [List.cons_append, List.cons_append, jnD_cons2, ← List.cons_append, ih, jnD_cons2]
    simp
theorem jnD_len (D : Nat → List UInt8) (hD : ∀ n, (D n).length ≤ 5) : ∀ ws : List Nat, (jnD D ws).length ≤ 6 * ws.length
  | [] => by simp [jnD, Lib.join_nil]
  | [a] => by rw [jnD_one]; have := hD a; simp; omega
  | a :: b :: r => by
    have ih := jnD_len D hD (b :: r)
    have := hD a
    rw [jnD_cons2]
    simp at ih ⊢
    omega
/-- It ends in a byte that is no colon. -/
def Ends (s : List UInt8) : Prop := ∃ p c, s = p ++ [c] ∧ c ≠ 58
theorem Ends.pre {s : List UInt8} (h : Ends s) (t : List UInt8) : Ends (t ++ s) := by
  obtain ⟨p, c, rfl, hc⟩ := h
  exact ⟨t ++ p, c, by simp, hc⟩
theorem jnD_ends (D : Nat → List UInt8) (hD : ∀ n, Ends (D n)) : ∀ ws : List Nat, ws ≠ [] → Ends (jnD D ws)
  | [], h => absurd rfl h
  | [a], _ => by rw [jnD_one]; exact hD a
  | a :: b :: r, _ => by
    have ih := jnD_ends D hD (b :: r) (by simp)
    rw [jnD_cons2]
    exact (ih.pre [58]).pre _
/-- What stands there behind so many numbers. -/
def PrS (D : Nat → List UInt8) (ws : List Nat) (a n i : Nat) (s : List UInt8) : Prop :=
  (i ≤ a ∧ s = jnD D (ws.take i)) ∨ (a < i ∧ a + n ≤ i ∧ s = jnD D (ws.take a) ++ (58 :: 58 :: jnD D ((ws.drop (a + n)).take (i - (a + n)))))
theorem PrS.len {D : Nat → List UInt8} {ws : List Nat} {a n i : Nat} {s : List UInt8} (h : PrS D ws a n i s) (hD : ∀ n, (D n).length ≤ 5) (hw : ws.length = 8) : s.length ≤ 120 := by
  rcases h with ⟨_, rfl⟩ | ⟨_, _, rfl⟩
  · have := jnD_len D hD (ws.take i)
    rw [List.length_take] at this
    omega
  · have h1 := jnD_len D hD (ws.take a)
    have h2 := jnD_len D hD ((ws.drop (a + n)).take (i - (a + n)))
    rw [List.length_take] at h1 h2
    rw [List.length_drop] at h2
    simp
    omega
theorem PrS.skip {D : Nat → List UInt8} {ws : List Nat} {a n : Nat} {s : List UInt8} (h : PrS D ws a n a s) (hn : 1 ≤ n) : PrS D ws a n (a + n) (s ++ [58, 58]) := by
  rcases h with ⟨_, rfl⟩ | ⟨h, _⟩
  · refine .inr ⟨by omega, Nat.le_refl _, ?_⟩
    rw [Nat.sub_self, List.take_zero]
    simp [jnD, Lib.join_nil]
  · omega
theorem take_next {ws : List Nat} {i : Nat} (h : i < ws.length) : ws.take (i + 1) = ws.take i ++ [ws.getD i 0] := by
  rw [List.take_succ_eq_append_getElem h, List.getD_eq_getElem?_getD, List.getElem?_eq_getElem h]; rfl
theorem PrS.next {D : Nat → List UInt8} {ws : List Nat} {a n i : Nat} {s : List UInt8} (h : PrS D ws a n i s) (hD : ∀ n, Ends (D n)) (hi : i < ws.length) (ha : i ≠ a) :
    (s = [] ∧ PrS D ws a n (i + 1) (D (ws.getD i 0))) ∨ (∃ p, s = p ++ [58] ∧ PrS D ws a n (i + 1) (s ++ D (ws.getD i 0))) ∨ (∃ p c, s = p ++ [c] ∧ c ≠ 58 ∧ PrS D ws a n (i + 1) (s ++ (58 :: D (ws.getD i 0)))) := by
  rcases h with ⟨h1, rfl⟩ | ⟨h0, h1, rfl⟩
  · rcases Nat.eq_zero_or_pos i with rfl | hp
    · exact .inl ⟨by simp [jnD, Lib.join_nil], .inl ⟨by omega, by rw [take_next hi, List.take_zero, List.nil_append, jnD_one]⟩⟩
    · have hne : ws.take i ≠ [] := by
        intro e
        have := congrArg List.length e
        rw [List.length_take, List.length_nil] at this
        omega
      obtain ⟨p, c, e, hc⟩ := jnD_ends D hD _ hne
      exact .inr (.inr ⟨p, c, e, hc, .inl ⟨by omega, by rw [take_next hi, jnD_snoc D _ _ hne]⟩⟩)
  · have hg : (ws.drop (a + n)).getD (i - (a + n)) 0 = ws.getD i 0 := by
      rw [List.getD_eq_getElem?_getD, List.getD_eq_getElem?_getD, List.getElem?_drop, show a + n + (i - (a + n)) = i by omega]
    have hl : i - (a + n) < (ws.drop (a + n)).length := by rw [List.length_drop]; omega
    have hs : i + 1 - (a + n) = i - (a + n) + 1 := by omega
    rcases Nat.eq_zero_or_pos (i - (a + n)) with h2 | hp
    · refine .inr (.inl ⟨jnD D (ws.take a) ++ [58], by rw [h2, List.take_zero]; simp [jnD, Lib.join_nil], .inr ⟨by omega, by omega, ?_⟩⟩)
      rw [hs, take_next hl, hg, h2, List.take_zero, List.nil_append, jnD_one]
      simp [jnD, Lib.join_nil]
    · have hne : (ws.drop (a + n)).take (i - (a + n)) ≠ [] := by
        intro e
        have := congrArg List.length e
        rw [List.length_take, List.length_nil] at this
        omega
      obtain ⟨p, c, e, hc⟩ := ((jnD_ends D hD _ hne).pre [58, 58]).pre (jnD D (ws.take a))
      refine .inr (.inr ⟨p, c, by simpa using e, hc, .inr ⟨by omega, by omega, ?_⟩⟩)
      rw [hs, take_next hl, hg, jnD_snoc D _ _ hne]
      simp
theorem PrS.done {D : Nat → List UInt8} {ws : List Nat} {a n : Nat} {s : List UInt8} (h : PrS D ws a n 8 s) (hw : ws.length = 8) : (8 ≤ a → s = jnD D ws) ∧ (a < 8 → s = jnD D (ws.take a) ++ (58 :: 58 :: jnD D (ws.drop (a + n)))) := by
  rcases h with ⟨h1, rfl⟩ | ⟨h0, h1, rfl⟩
  · exact ⟨fun _ => by rw [List.take_of_length_le (by omega)], fun h => absurd h (by omega)⟩
  · refine ⟨fun h => absurd h (by omega), fun _ => ?_⟩
    rw [List.take_of_length_le (l := ws.drop (a + n)) (by rw [List.length_drop]; omega)]
theorem PrS.start (D : Nat → List UInt8) (ws : List Nat) (a n : Nat) : PrS D ws a n 0 [] := .inl ⟨Nat.zero_le _, by simp [jnD, Lib.join_nil]⟩
end Go.Proofs.YtalnfjnfcloonaaGreatDoor

