/-
  Texts joined: Rcs, Tk, Oct, PureHex, OctHex, Ad1, Ad2.
-/
import Derived.Test.YtokpogoblnhihaaMg02
import Derived.Test.YtokpogoblnhihaaMg00
import Derived.Test.YtokpogoblnhihaaChecked
import Derived.WalkLawsBesides
import Derived.WalkSpells
import Derived.BigQuiet
import Derived.Deep.QuietTactic
import Derived.LoopTactic
import Derived.Deep.RegionLaw
import Derived.Deep.AppendLies
import Derived.Test.YtokpogoblnhihaaMg01
import Derived.Deep.RegionHeld3
import Derived.Laws.Cover3
import Derived.Deep.Cut
import Derived.Lib.Hide
/-
  Lists of records in memory, and the document's own comparison of two.
-/
namespace Go.Proofs.Ytokpogoblnhihaa
open Go.RowKit
set_option linter.unusedVariables false

/-- A record as plain data: its kind, its group, its sources. -/
structure RC where
  kind : Int
  g : AD
  src : List AD
  deriving DecidableEq
def rcC (r : RC) (u : Value) : List Value := .int .i64 r.kind :: (adC r.g ++ [u])
/-- A record lies in block b from o on. -/
def RcAt (w : World) (b o : Nat) (r : RC) : Prop := adOk r.g ∧ b < w.heap.size ∧ ∃ u, row? w b o 19 = some (rcC r u) ∧ Ads w u r.src
theorem RcAt.below {w w' : World} {b o : Nat} {r : RC} (h : RcAt w b o r) (hb : Below w.heap.size w w') : RcAt w' b o r := by
  obtain ⟨h1, h2, u, h3, h4⟩ := h
  exact ⟨h1, Nat.lt_of_lt_of_le h2 hb.size, u, row?_below h3 h2 hb, h4.below hb⟩
theorem RcAt.parts {w : World} {b o : Nat} {r : RC} (h : RcAt w b o r) : ∃ u, w.cell? ⟨b, o, none⟩ = some (.int .i64 r.kind) ∧ row? w b (o + 1) 17 = some (adC r.g) ∧ w.cell? ⟨b, o + 18, none⟩ = some u ∧ Ads w u r.src ∧ row? w b o 19 = some (rcC r u) := by
  obtain ⟨h1, h2, u, h3, h4⟩ := h
  obtain ⟨h5, h6⟩ := rangeAt_of_row? h3
  have hl := adC_length h1
  refine ⟨u, h5 0 _ rfl, ?_, ?_, h4, h3⟩
  · have hr : w.rangeAt b (o + 1) (adC r.g) := fun j v hv => by
      have hj := (List.getElem?_eq_some_iff.1 hv).1
      have := h5 (1 + j) v (by
        unfold rcC
        rw [Nat.add_comm 1 j, List.getElem?_cons_succ, List.getElem?_append_left hj]
        exact hv)
      rw [← Nat.add_assoc] at this
      exact this
    have := row?_of hr
    rw [hl] at this
    exact this
  · exact h5 18 u (by
      unfold rcC
      rw [show (18 : Nat) = 17 + 1 from rfl, List.getElem?_cons_succ, List.getElem?_append_right (by omega), hl]
      rfl)
/-- A slice of records. -/
def Rcs (w : World) (v : Value) (l : List RC) : Prop :=
  ∃ (p : Option Addr) (cap : Nat), v = .slice p l.length cap ∧ l.length ≤ cap ∧ cap ≤ maxLen ∧
    (l ≠ [] → ∃ b o, p = some ⟨b, o, none⟩ ∧ ∀ i (h : i < l.length), RcAt w b (o + i * 19) l[i])
theorem Rcs.below {w w' : World} {v : Value} {l : List RC} (h : Rcs w v l) (hb : Below w.heap.size w w') : Rcs w' v l := by
  obtain ⟨p, cap, h1, h2, h3, h5⟩ := h
  refine ⟨p, cap, h1, h2, h3, fun hn => ?_⟩
  obtain ⟨b, o, e1, e3⟩ := h5 hn
  exact ⟨b, o, e1, fun i h => (e3 i h).below hb⟩
theorem Rcs.nil (w : World) : Rcs w (.slice none 0 0) [] := ⟨none, 0, rfl, Nat.le_refl _, by unfold maxLen; omega, fun h => absurd rfl h⟩
theorem Rcs.parts {w : World} {v : Value} {l : List RC} (h : Rcs w v l) (hn : l ≠ []) : ∃ b o cap, v = .slice (some ⟨b, o, none⟩) l.length cap ∧ l.length ≤ cap ∧ cap ≤ maxLen ∧ ∀ i (h : i < l.length), RcAt w b (o + i * 19) l[i] := by
  obtain ⟨p, cap, h1, h2, h3, h5⟩ := h
  obtain ⟨b, o, rfl, e3⟩ := h5 hn
  exact ⟨b, o, cap, h1, h2, h3, e3⟩
theorem Rcs.len {w : World} {v : Value} {l : List RC} (h : Rcs w v l) : ∃ p cap, v = .slice p l.length cap ∧ l.length ≤ cap ∧ cap ≤ maxLen := by obtain ⟨p, cap, h1, h2, h3, h5⟩ := h; exact ⟨p, cap, h1, h2, h3⟩
/-- From a shape. -/
def recS : Shape (Int × ((Bool × (List UInt8 × Unit)) × (List (Bool × (List UInt8 × Unit)) × Unit))) := pairS 1 (intS .i64) (pairS 17 addrS (pairS 1 (sliceS 17 addrS) unitS))
def rcOf (x : Int × ((Bool × (List UInt8 × Unit)) × (List (Bool × (List UInt8 × Unit)) × Unit))) : RC := ⟨x.1, adOf x.2.1, x.2.2.1.map adOf⟩
theorem recS_cells {w : World} {cs : List Value} {x : _} (h : recS w cs x) : adOk (rcOf x).g ∧ ∃ u, cs = rcC (rcOf x) u ∧ Ads w u (rcOf x).src := by
  obtain ⟨c0, d0, rfl, _, h0, c1, d1, rfl, _, h1, c2, d2, rfl, l2, h2, h3⟩ := h
  obtain ⟨e0, _⟩ := h0
  obtain ⟨e1, k1⟩ := addrS_cells h1
  have e3 : d2 = [] := h3
  obtain ⟨u, rfl⟩ : ∃ u, c2 = [u] := by
    match c2, l2 with
    | [u], _ => exact ⟨u, rfl⟩
  subst e0 e1 e3
  exact ⟨k1, u, by simp [rcC, rcOf, adC, adOf], Ads.of h2⟩
theorem Rcs.of {w : World} {v : Value} {xs : List (Int × ((Bool × (List UInt8 × Unit)) × (List (Bool × (List UInt8 × Unit)) × Unit)))} (h : sliceS 19 recS w [v] xs) : Rcs w v (xs.map rcOf) := by
  rcases h with ⟨h1, h2⟩ | ⟨a, cap, h1, h2, h3, h4, h5⟩
  · simp at h1
    subst h1 h2
    exact Rcs.nil w
  · simp at h1
    subst h1
    refine ⟨some a, cap, by simp, by simpa using h2, h3, fun hn => ?_⟩
    have hx : xs ≠ [] := by rintro rfl; exact hn rfl
    obtain ⟨q1, q2⟩ := h4 hx
    obtain ⟨ab, ao, as_⟩ := a
    simp only at q1 q2
    subst q1
    refine ⟨ab, ao, rfl, fun i hi => ?_⟩
    simp at hi
    obtain ⟨c, e1, e2, e3⟩ := h5 i xs[i] (List.getElem?_eq_getElem hi)
    obtain ⟨f1, u, f2, f3⟩ := recS_cells e3
    rw [List.getElem_map]
    refine ⟨f1, q2, u, ?_, f3⟩
    rw [← f2]
    have hr : w.rangeAt ab (ao + i * 19) c := fun j v hv => by
      have hj := (List.getElem?_eq_some_iff.1 hv).1
      rw [Nat.add_assoc, e2 j (by omega)]; exact hv
    have := row?_of hr
    rw [e1] at this
    exact this
theorem Ads.drewN {w : World} {v : Value} {l : List AD} (h : Ads w v l) (d : Nat) : Ads (w.drewN d) v l := h.below (bdrewN (Below.refl _ _) d)
attribute [local go_sem ↓] ld_addr
attribute [local go_sem] ldr_addr row?_drewN_eq row?_drew_eq

end Go.Proofs.Ytokpogoblnhihaa

/-
  Talks in memory, and the document's own comparison of two.
-/
namespace Go.Proofs.Ytokpogoblnhihaa
open Go.RowKit
set_option linter.unusedVariables false

/-- A talk as plain data. -/
structure TK where
  v6 : Bool
  ver : Int
  kind : Int
  resp : Int
  g : AD
  quiet : Bool
  rob : Int
  every : Int
  src : List AD
  rcs : List RC
  deriving DecidableEq
def tkC (t : TK) (us ur : Value) : List Value := [.bool t.v6, .int .i64 t.ver, .int .i64 t.kind, .int .i64 t.resp] ++ (adC t.g ++ [.bool t.quiet, .int .i64 t.rob, .int .i64 t.every, us, ur])
theorem tkC_length {t : TK} (h : adOk t.g) (us ur : Value) : (tkC t us ur).length = 26 := by unfold tkC; simp [adC_length h]
/-- A talk's cells by value. -/
def Tks (w : World) (cs : List Value) (t : TK) : Prop := adOk t.g ∧ ∃ us ur, cs = tkC t us ur ∧ Ads w us t.src ∧ Rcs w ur t.rcs
theorem Tks.below {w w' : World} {cs : List Value} {t : TK} (h : Tks w cs t) (hb : Below w.heap.size w w') : Tks w' cs t := by
  obtain ⟨h1, us, ur, h2, h3, h4⟩ := h
  exact ⟨h1, us, ur, h2, h3.below hb, h4.below hb⟩
end Go.Proofs.Ytokpogoblnhihaa

/-
  The contracts of package octet, part one: clamp, number, Put, Get.
-/
namespace Go.Proofs.Ytokpogoblnhihaa
open Go.RowKit
set_option linter.unusedVariables false

end Go.Proofs.Ytokpogoblnhihaa

/-
  Plain lemmas on hexadecimal digits; nothing of the program.
-/
namespace Go.Proofs.Ytokpogoblnhihaa
open Go.RowKit
set_option linter.unusedVariables false

end Go.Proofs.Ytokpogoblnhihaa

/-
  The contract of octet.Hex, and of the statements' small living call.
-/
namespace Go.Proofs.Ytokpogoblnhihaa
open Go.RowKit
set_option linter.unusedVariables false

end Go.Proofs.Ytokpogoblnhihaa

/-
  Contracts of addr: small functions on one address.
-/
namespace Go.Proofs.Ytokpogoblnhihaa
open Go.RowKit
set_option linter.unusedVariables false

theorem list16 {l : List UInt8} (h : l.length = 16) : ∃ b0 b1 b2 b3 b4 b5 b6 b7 b8 b9 ba bb bc bd be bf, l = [b0, b1, b2, b3, b4, b5, b6, b7, b8, b9, ba, bb, bc, bd, be, bf] := by
  match l, h with
  | [b0, b1, b2, b3, b4, b5, b6, b7, b8, b9, ba, bb, bc, bd, be, bf], _ => exact ⟨b0, b1, b2, b3, b4, b5, b6, b7, b8, b9, ba, bb, bc, bd, be, bf, rfl⟩
/-- A byte of an address. -/
def bN (l : List UInt8) (i : Nat) : Int := ((l.getD i 0).toNat : Int)
/-- Whether it is a group's. -/
def grpV (v : Bool) (l : List UInt8) : Bool := if v then (bN l 0 == 255) else (decide (224 ≤ bN l 0) && decide (bN l 0 ≤ 239))
theorem ret_bool {a b : Bool} (h : a = b) : Ending.returned (.bool a) = .returned (.bool b) := by rw [h]

theorem row_box (w : World) (v : Bool) (l : List UInt8) (hl : l.length = 16) (t : TypeId) : row? (w.alloc (.cells (addrC v l).toArray t)) w.heap.size 0 17 = some (addrC v l) := by
  have h := row?_of (w := w.alloc (.cells (addrC v l).toArray t)) (b := w.heap.size) (o := 0) (cs := addrC v l) (fun j x hj => by rw [World.cell?_alloc_mark]; simpa using hj)
  rwa [addrC_length, hl] at h

/-- All that is known of a boxed address. -/
def BoxAt (w W : World) (v : Bool) (l : List UInt8) : Prop := W.cell? ⟨w.heap.size, 0, none⟩ = some (.bool v) ∧ RowAt W w.heap.size 1 l ∧ row? W w.heap.size 0 17 = some (addrC v l) ∧ w.heap.size < W.heap.size ∧ Below w.heap.size w W
theorem BoxAt.made (w : World) (v : Bool) (l : List UInt8) (hl : l.length = 16) (t : TypeId) : BoxAt w (w.alloc (.cells (addrC v l).toArray t)) v l :=
  ⟨by simp [addrC], rowAt_box w v l t (0, 0) _ rfl, row_box w v l hl t, by simp, (Below.refl _ _).alloc (Nat.le_refl _) _⟩
theorem BoxAt.keep {w W W' : World} {v : Bool} {l : List UInt8} (h : BoxAt w W v l) (hb : Below W.heap.size W W') : BoxAt w W' v l :=
  ⟨by rw [hb.cell (p := ⟨w.heap.size, 0, none⟩) h.2.2.2.1]; exact h.1, h.2.1.below h.2.2.2.1 hb, row?_below h.2.2.1 h.2.2.2.1 hb, Nat.lt_of_lt_of_le h.2.2.2.1 hb.size, bstep h.2.2.2.2 hb⟩
theorem BoxAt.drewN {w W : World} {v : Bool} {l : List UInt8} (h : BoxAt w W v l) (n : Nat) : BoxAt w (W.drewN n) v l := h.keep (bdrewN (Below.refl _ _) n)
theorem BoxAt.alloc {w W : World} {v : Bool} {l : List UInt8} (h : BoxAt w W v l) (o : Obj) : BoxAt w (W.alloc o) v l := h.keep ((Below.refl _ _).alloc (Nat.le_refl _) _)
theorem BoxAt.at {w W : World} {v : Bool} {l : List UInt8} (h : BoxAt w W v l) (i : Nat) (hi : i < l.length) : W.cell? ⟨w.heap.size, 1 + i, none⟩ = some (.int .u8 ((l[i]).toNat : Int)) := h.2.1 i hi

end Go.Proofs.Ytokpogoblnhihaa

/-
  Contracts of addr: functions that answer addresses.
-/
namespace Go.Proofs.Ytokpogoblnhihaa
open Go.RowKit
set_option linter.unusedVariables false
attribute [local go_sem ↓] bld_addr bld_b16 ld_addr st_addr ld_b16
attribute [local go_sem] ldr_addr str_addr ldr_b16
set_option maxRecDepth 100000 in
set_option maxHeartbeats 1000000 in
theorem ip4_any (a b c d : Int) (w : World) : Calls Try.prog 60 #[.int .u8 a, .int .u8 b, .int .u8 c, .int .u8 d] w fun e w' => e = .returned (.agg #[.bool false, .int .u8 a, .int .u8 b, .int .u8 c, .int .u8 d, .int .u8 0, .int .u8 0, .int .u8 0, .int .u8 0, .int .u8 0, .int .u8 0, .int .u8 0, .int .u8 0, .int .u8 0, .int .u8 0, .int .u8 0, .int .u8 0]) ∧ Below w.heap.size w w' := by
  have hok : fok #[.bool false, .int .u8 a, .int .u8 b, .int .u8 c, .int .u8 d, .int .u8 0, .int .u8 0, .int .u8 0, .int .u8 0, .int .u8 0, .int .u8 0, .int .u8 0, .int .u8 0, .int .u8 0, .int .u8 0, .int .u8 0, .int .u8 0] 17 = true := by simp [fok, Value.oneCell']
  have hb1 : ∀ w0, (aggBuild 35 #[(0, .int .u8 a), (1, .int .u8 b), (2, .int .u8 c), (3, .int .u8 d)]).run Try.prog w0 = .ok (.agg #[.int .u8 a, .int .u8 b, .int .u8 c, .int .u8 d, .int .u8 0, .int .u8 0, .int .u8 0, .int .u8 0, .int .u8 0, .int .u8 0, .int .u8 0, .int .u8 0, .int .u8 0, .int .u8 0, .int .u8 0, .int .u8 0]) w0 := bld_run _ _ _ (by kernel_rfl)
  have hb2 : ∀ w0, (aggBuild 37 #[(1, .agg #[.int .u8 a, .int .u8 b, .int .u8 c, .int .u8 d, .int .u8 0, .int .u8 0, .int .u8 0, .int .u8 0, .int .u8 0, .int .u8 0, .int .u8 0, .int .u8 0, .int .u8 0, .int .u8 0, .int .u8 0, .int .u8 0])]).run Try.prog w0 = .ok (.agg #[.bool false, .int .u8 a, .int .u8 b, .int .u8 c, .int .u8 d, .int .u8 0, .int .u8 0, .int .u8 0, .int .u8 0, .int .u8 0, .int .u8 0, .int .u8 0, .int .u8 0, .int .u8 0, .int .u8 0, .int .u8 0, .int .u8 0]) w0 := bld_run _ _ _ (by kernel_rfl)
  go_enter Try.func60, Try.ntmps60
  go_upto_region 1 with (fail)
  have hf := free_made w #[.bool false, .int .u8 0, .int .u8 0, .int .u8 0, .int .u8 0, .int .u8 0, .int .u8 0, .int .u8 0, .int .u8 0, .int .u8 0, .int .u8 0, .int .u8 0, .int .u8 0, .int .u8 0, .int .u8 0, .int .u8 0, .int .u8 0] 37 17 (by simp)
  have hb : Below w.heap.size w (w.alloc (.cells #[.bool false, .int .u8 0, .int .u8 0, .int .u8 0, .int .u8 0, .int .u8 0, .int .u8 0, .int .u8 0, .int .u8 0, .int .u8 0, .int .u8 0, .int .u8 0, .int .u8 0, .int .u8 0, .int .u8 0, .int .u8 0, .int .u8 0] 37)) := (Below.refl _ _).alloc (Nat.le_refl _) _
  generalize w.alloc (.cells #[.bool false, .int .u8 0, .int .u8 0, .int .u8 0, .int .u8 0, .int .u8 0, .int .u8 0, .int .u8 0, .int .u8 0, .int .u8 0, .int .u8 0, .int .u8 0, .int .u8 0, .int .u8 0, .int .u8 0, .int .u8 0, .int .u8 0] 37) = W at hf hb ⊢
  have Hb := Lib.hid hb; clear hb
  go_wp2
  have hr := aggW_row (cs := [.bool false, .int .u8 a, .int .u8 b, .int .u8 c, .int .u8 d, .int .u8 0, .int .u8 0, .int .u8 0, .int .u8 0, .int .u8 0, .int .u8 0, .int .u8 0, .int .u8 0, .int .u8 0, .int .u8 0, .int .u8 0, .int .u8 0]) hf rfl
  exact bodyPost_ret (results_cell Try.results60 rfl (ld_some hr (ldr_addr _ _ _))) rfl ⟨rfl, aggW_below Hb.out (Nat.le_refl _) _⟩

/-- Which address bytes are. -/
def readV (s : List UInt8) : List UInt8 := s ++ List.replicate (16 - s.length) 0
end Go.Proofs.Ytokpogoblnhihaa

