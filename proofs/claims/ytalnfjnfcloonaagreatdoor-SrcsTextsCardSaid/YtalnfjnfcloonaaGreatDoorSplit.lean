/-
  The contract of addr.split.
-/
import Derived.Test.YtalnfjnfcloonaaGreatDoorPu
import Derived.Test.YtalnfjnfcloonaaGreatDoorMg09
import Derived.Test.YtalnfjnfcloonaaGreatDoorObj
import Derived.Lib.SplitLaws
namespace Go.Proofs.YtalnfjnfcloonaaGreatDoor
open Go.RowKit
set_option linter.unusedVariables false

/-- The pieces of a text between single bytes. -/
def pcs (c : UInt8) (l : List UInt8) : List (List UInt8) := (Lib.splitB (Str [c]) 0 (Lib.countB (Str l) (Str [c])) (Str l)).map (·.data.toList)
theorem pcs_length (c : UInt8) (l : List UInt8) : (pcs c l).length = Lib.countB (Str l) (Str [c]) + 1 := by
  rw [pcs, List.length_map]; exact Lib.splitB_all (Str [c]) (by rw [Str_size]; simp) 0 _ (Str l) rfl
theorem pcs_str (c : UInt8) (l : List UInt8) : (Lib.splitB (Str [c]) 0 (Lib.countB (Str l) (Str [c])) (Str l)) = (pcs c l).map Str := by
  rw [pcs, List.map_map]
  exact (List.map_id _).symm.trans (List.map_congr_left fun a _ => (Str_of a).symm)
theorem pcs_count (c : UInt8) (l : List UInt8) : (pcs c l).length ≤ l.length + 1 := by
  rw [pcs_length]
  have := Lib.countB_le (Str [c]) (by rw [Str_size]; simp) (Str l).size (Str l) (Nat.le_refl _)
  rw [Str_size] at this
  omega

def partH (p : List UInt8) : List UInt8 := putL (pu 16 65535 p).1 2
def splH (c : UInt8) (l : List UInt8) : List UInt8 := if l = [] then [] else (pcs c l).flatMap partH
theorem partH_length (p : List UInt8) : (partH p).length = 2 := putL_length _ _
theorem flatH_length : ∀ (ps : List (List UInt8)), (ps.flatMap partH).length = 2 * ps.length
  | [] => rfl
  | p :: r => by rw [List.flatMap_cons, List.length_append, flatH_length r, partH_length, List.length_cons]; omega
theorem putH (n : Nat) (hn : n ≤ 65535) (w : World) : Calls Tryz.prog 62 #[.int .u64 n, .int .i64 2] w fun e w' => e = .returned (.string (Str (putL n 2))) ∧ Below w.heap.size w w' := put_any n (by omega) 2 w
theorem splitH_empty (c : UInt8) (w : World) : Calls Tryz.prog 42 #[.string (Str []), .string (Str [c]), .int .i64 16, .int .i64 2] w fun e w' => e = .returned (.string (Str (splH c []))) ∧ Below w.heap.size w w' := by
  show Calls Tryz.prog 42 #[.string ⟨#[]⟩, .string (Str [c]), .int .i64 16, .int .i64 2] w _
  go_enter Tryz.func42, Tryz.ntmps42
  go_wp2
  go_ret
  exact ⟨rfl, Below.refl _ _⟩
set_option maxHeartbeats 2000000 in
set_option maxRecDepth 100000 in
theorem splitH_some (c : UInt8) (l : List UInt8) (hne : l ≠ []) (hl : l.length ≤ 1000) (hp : ∀ p ∈ pcs c l, p.length ≤ 1000000) (w : World) (h : Env w) :
    Calls Tryz.prog 42 #[.string (Str l), .string (Str [c]), .int .i64 16, .int .i64 2] w fun e w' => e = .returned (.string (Str ((pcs c l).flatMap partH))) ∧ Below w.heap.size w w' := by
  have HE := Lib.hid h; clear h
  have hemp : (Str l).toList.isEmpty = false := by
    cases l with
    | nil => exact absurd rfl hne
    | cons a r => rw [← decide_eq_emptyBytes]; exact decide_eq_false (fun h => by have := congrArg ByteArray.size h; simp [Str_size] at this)
  have hemp2 : (Str l).toList = [] ↔ False := by
    constructor
    · intro h; rw [h] at hemp; simp at hemp
    · exact False.elim
  obtain ⟨m, hm⟩ := HE.out.ml
  have Hm := Lib.hid hm; clear hm
  have Hlen := Lib.hid (pcs_length c l)
  have Hstr := Lib.hid (pcs_str c l)
  have hcnt := pcs_count c l
  generalize pcs c l = ps at Hlen Hstr hcnt hp ⊢
  have Hp := Lib.hid hp
  clear hne hp
  go_enter Tryz.func42, Tryz.ntmps42
  go_wp2_with (go_at_call 60; refine (Tryz.strings_Split (Str l) (Str [c]) m _ (by rw [Str_size]; omega) Hm.out (by rw [Str_size]; simp)).mono ?_; rintro e w1 ⟨rfl, rfl⟩; rw [Hstr.out, ← Hlen.out, List.map_map]; refine Hid.out ?_)
  have ho := ObjAt.made w (ps.map (Value.string ∘ Str)).toArray 9
  have hb : Below w.heap.size w (w.alloc (.cells (ps.map (Value.string ∘ Str)).toArray 9)) := (Below.refl _ _).alloc (Nat.le_refl _) _
  generalize w.alloc (.cells (ps.map (Value.string ∘ Str)).toArray 9) = W at ho hb ⊢
  have Ho := Lib.hid ho; have Hb := Lib.hid hb
  clear ho hb
  refine Lib.hid ?_
  go_wp2_with fail
  go_loopw [9, 20] (fun vo vi wr => ∃ (k : Nat), k ≤ ps.length ∧ vi = .int .i64 (k : Int) ∧ vo = .string (Str ((ps.take k).flatMap partH)) ∧ Hid (ObjAt wr w.heap.size (ps.map (Value.string ∘ Str)).toArray 9 ∧ Below w.heap.size w wr)) (fun _ vi _ => ps.length - (intOf vi).toNat)
  case atStart => exact ⟨0, by omega, rfl, rfl, Lib.hid ⟨Ho.out, Hb.out⟩⟩
  case round _ _ wr =>
    obtain ⟨k, hk, rfl, rfl, hq⟩ := hrel
    by_cases hlt : k < ps.length
    · have hc : wr.cell? ⟨w.heap.size, k, none⟩ = some (.string (Str ps[k])) := by
        rw [hq.out.1.cell k]; simp [hlt]
      have Hk := Lib.hid (Hp.out ps[k] (List.getElem_mem hlt))
      have Hs := Lib.hid (show (ps.take k).flatMap partH ++ partH ps[k] = (ps.take (k + 1)).flatMap partH by rw [List.take_succ_eq_append_getElem hlt, List.flatMap_append]; simp)
      have hrun := run_cat (P := Tryz.prog) ((ps.take k).flatMap partH) (partH ps[k]) (by rw [flatH_length, partH_length, List.length_take]; omega)
      rw [Hs.out] at hrun
      have Hpt := Lib.hid (show partH ps[k] = putL (pu 16 65535 ps[k]).1 2 from rfl)
      have Hle := Lib.hid (pu_le 16 65535 ps[k])
      generalize ps[k] = p at hc Hk hrun Hpt Hle
      go_wp2_with (first
        | (go_at_call 61; refine (parse_16 p Hk.out _ (HE.out.below hq.out.2)).mono ?_; rintro e w2 ⟨ev, rfl, hb2⟩; have Hq2 := Lib.hid (show ObjAt w2 w.heap.size (ps.map (Value.string ∘ Str)).toArray 9 ∧ Below w.heap.size w w2 from ⟨hq.out.1.below hb2 hq.out.1.lt, bstep hq.out.2 hb2⟩); clear hb2)
        | (go_at_call 62; refine (putH _ Hle.out _).mono ?_; rintro e w3 ⟨rfl, hb3⟩; rw [← Hpt.out]; have Hq3 := Lib.hid (show ObjAt w3 w.heap.size (ps.map (Value.string ∘ Str)).toArray 9 ∧ Below w.heap.size w w3 from ⟨Hq2.out.1.below hb3 Hq2.out.1.lt, bstep Hq2.out.2 hb3⟩); clear hb3))
      go_roundw
      case rel => exact ⟨k + 1, by omega, by go_num, rfl, Hq3⟩
      case measure => simp [intOf]; omega
    · have hkk : k = ps.length := by omega
      subst hkk
      rw [List.take_length]
      go_wp2
      go_ret
      exact ⟨rfl, hq.out.2⟩

def partD (p : List UInt8) : List UInt8 := putL (pu 10 255 p).1 1
def splD (c : UInt8) (l : List UInt8) : List UInt8 := if l = [] then [] else (pcs c l).flatMap partD
theorem partD_length (p : List UInt8) : (partD p).length = 1 := putL_length _ _
theorem flatD_length : ∀ (ps : List (List UInt8)), (ps.flatMap partD).length = 1 * ps.length
  | [] => rfl
  | p :: r => by rw [List.flatMap_cons, List.length_append, flatD_length r, partD_length, List.length_cons]; omega
theorem putD (n : Nat) (hn : n ≤ 255) (w : World) : Calls Tryz.prog 62 #[.int .u64 n, .int .i64 1] w fun e w' => e = .returned (.string (Str (putL n 1))) ∧ Below w.heap.size w w' := put_any n (by omega) 1 w
theorem splitD_empty (c : UInt8) (w : World) : Calls Tryz.prog 42 #[.string (Str []), .string (Str [c]), .int .i64 10, .int .i64 1] w fun e w' => e = .returned (.string (Str (splD c []))) ∧ Below w.heap.size w w' := by
  show Calls Tryz.prog 42 #[.string ⟨#[]⟩, .string (Str [c]), .int .i64 10, .int .i64 1] w _
  go_enter Tryz.func42, Tryz.ntmps42
  go_wp2
  go_ret
  exact ⟨rfl, Below.refl _ _⟩
set_option maxHeartbeats 2000000 in
set_option maxRecDepth 100000 in
theorem splitD_some (c : UInt8) (l : List UInt8) (hne : l ≠ []) (hl : l.length ≤ 1000) (hp : ∀ p ∈ pcs c l, p.length ≤ 1000000) (w : World) (h : Env w) :
    Calls Tryz.prog 42 #[.string (Str l), .string (Str [c]), .int .i64 10, .int .i64 1] w fun e w' => e = .returned (.string (Str ((pcs c l).flatMap partD))) ∧ Below w.heap.size w w' := by
  have HE := Lib.hid h; clear h
  have hemp : (Str l).toList.isEmpty = false := by
    cases l with
    | nil => exact absurd rfl hne
    | cons a r => rw [← decide_eq_emptyBytes]; exact decide_eq_false (fun h => by have := congrArg ByteArray.size h; simp [Str_size] at this)
  have hemp2 : (Str l).toList = [] ↔ False := by
    constructor
    · intro h; rw [h] at hemp; simp at hemp
    · exact False.elim
  obtain ⟨m, hm⟩ := HE.out.ml
  have Hm := Lib.hid hm; clear hm
  have Hlen := Lib.hid (pcs_length c l)
  have Hstr := Lib.hid (pcs_str c l)
  have hcnt := pcs_count c l
  generalize pcs c l = ps at Hlen Hstr hcnt hp ⊢
  have Hp := Lib.hid hp
  clear hne hp
  go_enter Tryz.func42, Tryz.ntmps42
  go_wp2_with (go_at_call 60; refine (Tryz.strings_Split (Str l) (Str [c]) m _ (by rw [Str_size]; omega) Hm.out (by rw [Str_size]; simp)).mono ?_; rintro e w1 ⟨rfl, rfl⟩; rw [Hstr.out, ← Hlen.out, List.map_map]; refine Hid.out ?_)
  have ho := ObjAt.made w (ps.map (Value.string ∘ Str)).toArray 9
  have hb : Below w.heap.size w (w.alloc (.cells (ps.map (Value.string ∘ Str)).toArray 9)) := (Below.refl _ _).alloc (Nat.le_refl _) _
  generalize w.alloc (.cells (ps.map (Value.string ∘ Str)).toArray 9) = W at ho hb ⊢
  have Ho := Lib.hid ho; have Hb := Lib.hid hb
  clear ho hb
  refine Lib.hid ?_
  go_wp2_with fail
  go_loopw [9, 20] (fun vo vi wr => ∃ (k : Nat), k ≤ ps.length ∧ vi = .int .i64 (k : Int) ∧ vo = .string (Str ((ps.take k).flatMap partD)) ∧ Hid (ObjAt wr w.heap.size (ps.map (Value.string ∘ Str)).toArray 9 ∧ Below w.heap.size w wr)) (fun _ vi _ => ps.length - (intOf vi).toNat)
  case atStart => exact ⟨0, by omega, rfl, rfl, Lib.hid ⟨Ho.out, Hb.out⟩⟩
  case round _ _ wr =>
    obtain ⟨k, hk, rfl, rfl, hq⟩ := hrel
    by_cases hlt : k < ps.length
    · have hc : wr.cell? ⟨w.heap.size, k, none⟩ = some (.string (Str ps[k])) := by
        rw [hq.out.1.cell k]; simp [hlt]
      have Hk := Lib.hid (Hp.out ps[k] (List.getElem_mem hlt))
      have Hs := Lib.hid (show (ps.take k).flatMap partD ++ partD ps[k] = (ps.take (k + 1)).flatMap partD by rw [List.take_succ_eq_append_getElem hlt, List.flatMap_append]; simp)
      have hrun := run_cat (P := Tryz.prog) ((ps.take k).flatMap partD) (partD ps[k]) (by rw [flatD_length, partD_length, List.length_take]; omega)
      rw [Hs.out] at hrun
      have Hpt := Lib.hid (show partD ps[k] = putL (pu 10 255 ps[k]).1 1 from rfl)
      have Hle := Lib.hid (pu_le 10 255 ps[k])
      generalize ps[k] = p at hc Hk hrun Hpt Hle
      go_wp2_with (first
        | (go_at_call 61; refine (parse_10 p Hk.out _ (HE.out.below hq.out.2)).mono ?_; rintro e w2 ⟨ev, rfl, hb2⟩; have Hq2 := Lib.hid (show ObjAt w2 w.heap.size (ps.map (Value.string ∘ Str)).toArray 9 ∧ Below w.heap.size w w2 from ⟨hq.out.1.below hb2 hq.out.1.lt, bstep hq.out.2 hb2⟩); clear hb2)
        | (go_at_call 62; refine (putD _ Hle.out _).mono ?_; rintro e w3 ⟨rfl, hb3⟩; rw [← Hpt.out]; have Hq3 := Lib.hid (show ObjAt w3 w.heap.size (ps.map (Value.string ∘ Str)).toArray 9 ∧ Below w.heap.size w w3 from ⟨Hq2.out.1.below hb3 Hq2.out.1.lt, bstep Hq2.out.2 hb3⟩); clear hb3))
      go_roundw
      case rel => exact ⟨k + 1, by omega, by go_num, rfl, Hq3⟩
      case measure => simp [intOf]; omega
    · have hkk : k = ps.length := by omega
      subst hkk
      rw [List.take_length]
      go_wp2
      go_ret
      exact ⟨rfl, hq.out.2⟩
end Go.Proofs.YtalnfjnfcloonaaGreatDoor
