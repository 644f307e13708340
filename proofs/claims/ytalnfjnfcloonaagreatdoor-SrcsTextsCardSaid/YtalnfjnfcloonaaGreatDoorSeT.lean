/-
  The contract of srcs' Parse.
-/
import Derived.Test.YtalnfjnfcloonaaGreatDoorSeS
import Derived.Test.YtalnfjnfcloonaaGreatDoorSeM
import Derived.Test.YtalnfjnfcloonaaGreatDoorParse
import Derived.Maps.AppendAt
namespace Go.Proofs.YtalnfjnfcloonaaGreatDoor
open Go.RowKit
set_option linter.unusedVariables false
set_option linter.unusedSimpArgs false
attribute [local go_sem ↓] ld_addr st_addr adsLit_eq
attribute [local go_sem] ldr_addr str_addr row?_drewN_eq row?_drew_eq Oper.semAt_some

set_option maxRecDepth 100000 in
theorem splitSeq_any (s : List UInt8) (w : World) : Calls Tryz.prog 26 #[.string (Str s), .string ⟨#[44]⟩, .int .i64 0] w fun x w' => x = .returned (.func (.func 38) #[] #[.pointer (some ⟨w.heap.size + 1, 0, none⟩), .pointer (some ⟨w.heap.size, 0, none⟩), .pointer (some ⟨w.heap.size + 2, 0, none⟩)]) ∧
    w' = ((w.alloc (.cells #[.string (Str s)] 9)).alloc (.cells #[.string ⟨#[44]⟩] 9)).alloc (.cells #[.int .i64 0] 3) := by
  go_enter Tryz.func26, Tryz.ntmps26
  go_wp2
  go_ret
  exact ⟨rfl, rfl⟩
theorem sp_made (s : List UInt8) (w : World) : SpB w.heap.size (w.heap.size + 1) (w.heap.size + 2) (((w.alloc (.cells #[.string (Str s)] 9)).alloc (.cells #[.string ⟨#[44]⟩] 9)).alloc (.cells #[.int .i64 0] 3)) s := by
  have o1 := ((ObjAt.made w #[.string (Str s)] 9).alloc (.cells #[.string ⟨#[44]⟩] 9)).alloc (.cells #[.int .i64 0] 3)
  have o2 := (ObjAt.made (w.alloc (.cells #[.string (Str s)] 9)) #[.string ⟨#[44]⟩] 9).alloc (.cells #[.int .i64 0] 3)
  have o3 := ObjAt.made ((w.alloc (.cells #[.string (Str s)] 9)).alloc (.cells #[.string ⟨#[44]⟩] 9)) #[.int .i64 0] 3
  rw [show (w.alloc (.cells #[.string (Str s)] 9)).heap.size = w.heap.size + 1 by simp] at o2
  rw [show ((w.alloc (.cells #[.string (Str s)] 9)).alloc (.cells #[.string ⟨#[44]⟩] 9)).heap.size = w.heap.size + 2 by simp] at o3
  exact ⟨o1.cell 0, o1.free _, o2.cell 0, o3.cell 0⟩
set_option maxRecDepth 100000 in
theorem sseq_any (s : List UInt8) (w : World) : Calls Tryz.prog 13 #[.string (Str s), .string ⟨#[44]⟩] w fun x w' => x = .returned (.func (.func 38) #[] #[.pointer (some ⟨w.heap.size + 1, 0, none⟩), .pointer (some ⟨w.heap.size, 0, none⟩), .pointer (some ⟨w.heap.size + 2, 0, none⟩)]) ∧
    w' = ((w.alloc (.cells #[.string (Str s)] 9)).alloc (.cells #[.string ⟨#[44]⟩] 9)).alloc (.cells #[.int .i64 0] 3) := by
  have HC := Lib.hid (splitSeq_any s w)
  go_enter Tryz.func13, Tryz.ntmps13
  go_wp2_with (go_at_call 26; (with_reducible refine HC.out.mono ?_); rintro x w1 ⟨rfl, rfl⟩)
  go_ret
  exact ⟨rfl, rfl⟩

/-- What the texts tell, each an address. -/
def collP : List (List UInt8) → Option (List AD)
  | [] => some []
  | p :: ps => match parseV p, collP ps with | some a, some l => some (a :: l) | _, _ => none
theorem collP_snoc : ∀ (ps : List (List UInt8)) (p : List UInt8), collP (ps ++ [p]) = match collP ps, parseV p with | some l, some a => some (l ++ [a]) | _, _ => none
  | [], p => by simp only [List.nil_append, collP]; cases parseV p <;> rfl
  | q :: ps, p => by
    rw [List.cons_append]
    simp only [collP, collP_snoc ps p]
    cases parseV q <;> cases collP ps <;> cases parseV p <;> rfl
theorem collP_none {ps qs : List (List UInt8)} (h : collP ps = none) (hp : ps <+: qs) : collP qs = none := by
  obtain ⟨t, rfl⟩ := hp
  have : ∀ t : List (List UInt8), collP (ps ++ t) = none := by
    intro t
    refine snocInd (P := fun t => collP (ps ++ t) = none) (by simpa using h) (fun t x ih => ?_) t
    rw [← List.append_assoc, collP_snoc, ih]
  exact this t
theorem parseV_ok {s : List UInt8} {a : AD} (h : parseV s = some a) : adOk a := by
  unfold parseV at h
  split at h
  · cases h
  · split at h
    · rename_i hl
      split at h
      · cases h
        exact readV_length _ (by rcases hl with h | h <;> omega)
      · cases h
    · cases h
theorem collP_ok : ∀ {ps : List (List UInt8)} {l : List AD}, collP ps = some l → (∀ a ∈ l, adOk a) ∧ l.length = ps.length
  | [], l, h => by cases h; exact ⟨fun a ha => (by cases ha), rfl⟩
  | p :: ps, l, h => by
    unfold collP at h
    cases hp : parseV p with
    | none => rw [hp] at h; cases h
    | some a =>
      cases hc : collP ps with
      | none => rw [hp, hc] at h; cases h
      | some l' =>
        rw [hp, hc] at h; cases h
        obtain ⟨h1, h2⟩ := collP_ok hc
        exact ⟨fun x hx => by rcases List.mem_cons.1 hx with rfl | hx; exact parseV_ok hp; exact h1 x hx, by simp [h2]⟩
/-- Whether a list is a set, by decision. -/
def isSet (l : List AD) : Bool := decide (l = ofA l)
/-- The set that a text tells. -/
def parseL (s : List UInt8) : Option (List AD) := if s = [45] then some [] else match collP (spl s) with | some l => if isSet l = true then some l else none | none => none
end Go.Proofs.YtalnfjnfcloonaaGreatDoor
