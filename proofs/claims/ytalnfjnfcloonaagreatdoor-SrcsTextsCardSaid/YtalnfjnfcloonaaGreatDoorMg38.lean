/-
  Texts joined: MgU, PureRo.
-/
import Derived.Test.YtalnfjnfcloonaaGreatDoorBase
import Derived.Test.YtalnfjnfcloonaaGreatDoorObj
import Derived.Test.YtalnfjnfcloonaaGreatDoorMg06
import Derived.Test.YtalnfjnfcloonaaGreatDoorMg09
import Derived.Test.YtalnfjnfcloonaaGreatDoorChecked
import Derived.Lib.FrozenHead
import Derived.Deep.RegionHeld3
import Derived.Deep.Cut
import Derived.BigQuiet
import Derived.LoopTactic
import Derived.Deep.QuietTactic
import Derived.Test.YtalnfjnfcloonaaGreatDoorMg35
/-
  A strings.Builder in memory: what it holds, what its calls leave alone; copyCheck, WriteString, String.
-/
namespace Go.Proofs.YtalnfjnfcloonaaGreatDoor
open Go.RowKit
set_option linter.unusedVariables false
set_option linter.unusedSimpArgs false

/-- Bytes that a writer in block b holds; its row, if there is one, lies from base on. -/
def SB (base : Nat) (W : World) (b : Nat) (l : List UInt8) : Prop :=
  ∃ p v, (p = .pointer none ∨ p = .pointer (some ⟨b, 0, none⟩)) ∧ W.heap[b]? = some (.cells #[p, v] 47 (0, 0)) ∧ W.ownsRowF base 5 1 v l.length (B8 l)
/-- What a writer's calls leave alone. -/
structure SK (base b : Nat) (w w' : World) : Prop where
  os : w'.os = w.os
  tape : w'.tape = w.tape
  output : w'.output = w.output
  size : w.heap.size ≤ w'.heap.size
  block : ∀ i, i < w.heap.size → i ≠ b → (i < base ∨ ∀ cur fz, w.heap[i]? ≠ some (.cells cur 5 fz)) → w'.heap[i]? = w.heap[i]?
theorem SK.refl (base b : Nat) (w : World) : SK base b w w := ⟨rfl, rfl, rfl, Nat.le_refl _, fun _ _ _ _ => rfl⟩
theorem SK.trans {base b : Nat} {w w1 w2 : World} (h : SK base b w w1) (k : SK base b w1 w2) : SK base b w w2 :=
  ⟨k.os.trans h.os, k.tape.trans h.tape, k.output.trans h.output, Nat.le_trans h.size k.size, fun i hi hb ho => by
    have e := h.block i hi hb ho
    refine (k.block i (Nat.lt_of_lt_of_le hi h.size) hb ?_).trans e
    rcases ho with ho | ho
    · exact Or.inl ho
    · right; intro cur fz; rw [e]; exact ho cur fz⟩
theorem SK.of {base b : Nat} {w w' : World} (k : Below w.heap.size w w') : SK base b w w' := ⟨k.os, k.tape, k.output, k.size, fun i hi _ _ => k.block i hi⟩
theorem SK.set (base b j : Nat) (w : World) (v : Value) : SK base b w (w.setCell ⟨b, j, none⟩ v) :=
  ⟨rfl, rfl, rfl, by simp [World.setCell], fun i _ hb _ => Below.heap_setCell _ _ _ _ (fun e => hb (by simp [e]))⟩
theorem SK.grown {base b n : Nat} {w w' : World} {v : Value} {xs : List Value} (hown : w.ownsRowF base 5 1 v n xs) (hg : w.grownBy w' v.ownBlock) : SK base b w w' :=
  ⟨hg.os, hg.tape, hg.output, hg.size, fun i hi hb ho => hg.block i hi (fun e => by
    rcases hown.2 with ⟨rfl, _⟩ | ⟨g, cap, cur, fz, rfl, hbg, hgg, _⟩
    · simp [Value.ownBlock] at e
    · simp only [Value.ownBlock, Option.some.injEq] at e
      subst e
      rcases ho with ho | ho
      · omega
      · exact ho cur fz hgg)⟩
theorem SK.blw {base b N : Nat} {w w' : World} (h : SK base b w w') (h1 : N ≤ base) (h2 : N ≤ b) (h3 : N ≤ w.heap.size) : Below N w w' :=
  ⟨h.os, h.tape, h.output, h.size, fun i hi => h.block i (by omega) (by omega) (Or.inl (by omega))⟩
theorem ObjAt.sk {base b m : Nat} {w w' : World} {L : Array Value} {T : TypeId} (h : ObjAt w m L T) (hk : SK base b w w') (hm : m ≠ b) (hT : T ≠ 5) : ObjAt w' m L T := by
  have hlt := h.lt
  unfold ObjAt at h ⊢
  rw [hk.block m hlt hm (Or.inr fun cur fz e => by rw [h] at e; simp only [Option.some.injEq, Obj.cells.injEq] at e; exact hT e.2.1)]
  exact h
theorem SB.lt {base b : Nat} {w : World} {l : List UInt8} (h : SB base w b l) : b < w.heap.size := by
  obtain ⟨p, v, _, hb, _⟩ := h
  exact (Array.getElem?_eq_some_iff.1 hb).1
theorem ownS_kept {w w' : World} {base n : Nat} {v : Value} {xs : List Value} (h : w.ownsRowF base 5 1 v n xs) (hk : ∀ g, v.ownBlock = some g → w'.heap[g]? = w.heap[g]?) : w'.ownsRowF base 5 1 v n xs := by
  refine ⟨h.1, ?_⟩
  rcases h.2 with hn | ⟨g, cap, cur, fz, rfl, hbg, hgg, rest⟩
  · exact .inl hn
  · exact .inr ⟨g, cap, cur, fz, rfl, hbg, (hk g rfl).trans hgg, rest⟩
theorem SB.below {base b : Nat} {w w' : World} {l : List UInt8} (h : SB base w b l) (hb : Below w.heap.size w w') : SB base w' b l := by
  have hlt := h.lt
  obtain ⟨p, v, h1, h2, h3⟩ := h
  exact ⟨p, v, h1, (hb.block b hlt).trans h2, ownS_kept h3 fun g hg => hb.block g (h3.lt g hg).2⟩
theorem SB.new {b : Nat} {w : World} (h : ObjAt w b #[.pointer none, .slice none 0 0] 47) (base : Nat) : SB base w b [] := ⟨_, _, Or.inl rfl, h, World.ownsRowF_nil _ _ _ _⟩

set_option maxRecDepth 100000 in
set_option maxHeartbeats 1000000 in
theorem scopy_used (b : Nat) (w : World) (h0 : w.cell? ⟨b, 0, none⟩ = some (.pointer (some ⟨b, 0, none⟩))) :
    Calls Tryz.prog 32 #[.pointer (some ⟨b, 0, none⟩)] w fun e w' => e = .returned (.tuple #[]) ∧ w' = w := by
  obtain ⟨j, hj⟩ := info_of Tryz.underlying47
  go_enter Tryz.func32, Tryz.ntmps32
  go_wp2
  rw [Lib.run_neq_ptr_same w _ Tryz.underlying44 hj]
  go_wp2
  go_end0
  exact ⟨rfl, rfl⟩
set_option maxRecDepth 100000 in
set_option maxHeartbeats 1000000 in
theorem scopy_fresh (b : Nat) (w : World) (h0 : w.cell? ⟨b, 0, none⟩ = some (.pointer none)) (hsh : w.shape? b = some (47, 2)) (hfz : w.frozen? ⟨b, 0, none⟩ = false) :
    Calls Tryz.prog 32 #[.pointer (some ⟨b, 0, none⟩)] w fun e w' => e = .returned (.tuple #[]) ∧ w' = w.setCell ⟨b, 0, none⟩ (.pointer (some ⟨b, 0, none⟩)) := by
  have hs0 : (Tryz.prog.info? 47).map (·.size) = some 2 := by kernel_rfl
  obtain ⟨j, hj, hjs⟩ := Option.map_eq_some_iff.1 hs0
  go_enter Tryz.func32, Tryz.ntmps32
  go_wp2
  rw [Lib.run_to_unsafe w ⟨b, 0, none⟩ Tryz.underlying44 Tryz.underlying77 hj (by rw [hjs]; decide) hsh (Nat.zero_lt_succ 1)]
  simp only [Result.andThen]
  rw [Oper.upon_value]
  go_wp2
  rw [run_callFunc_extern Tryz.func48 (by kernel_rfl) (by kernel_rfl) (by kernel_rfl) (e := Extern.AbiNoEscape.same) (by kernel_rfl)]
  rw [Lib.run_noEscape]
  simp only [Result.andThen]
  rw [Oper.upon_value]
  go_wp2
  rw [Lib.run_from_unsafe w ⟨b, 0, none⟩ Tryz.underlying77 Tryz.underlying44 hj hsh (by kernel_rfl)]
  simp only [Result.andThen]
  rw [Oper.upon_value]
  go_wp2
  go_end0
  exact ⟨rfl, rfl⟩
theorem scopy_any (base b : Nat) (l : List UInt8) (w : World) (h : SB base w b l) : Calls Tryz.prog 32 #[.pointer (some ⟨b, 0, none⟩)] w fun x w' => x = .returned (.tuple #[]) ∧ (∃ v, w'.heap[b]? = some (.cells #[.pointer (some ⟨b, 0, none⟩), v] 47 (0, 0)) ∧ w'.ownsRowF base 5 1 v l.length (B8 l)) ∧ SK base b w w' := by
  obtain ⟨p, v, hp, hb, hown⟩ := h
  have c0 : w.cell? ⟨b, 0, none⟩ = some p := by simp [World.cell?, hb]
  rcases hp with rfl | rfl
  · refine (scopy_fresh b w c0 (by simp [World.shape?, hb]) (by simp [World.frozen?, hb])).mono ?_
    rintro x w' ⟨rfl, rfl⟩
    have hne := Lib.ownBlock_neF hown hb (by decide)
    refine ⟨rfl, ⟨v, by simp [World.setCell, Array.getElem?_modify, hb], ownS_kept hown fun g hg => Below.heap_setCell _ _ _ _ (fun e => hne (by rw [hg]; exact congrArg some e))⟩, SK.set _ _ _ _ _⟩
  · refine (scopy_used b w c0).mono ?_
    rintro x w' ⟨rfl, rfl⟩
    exact ⟨rfl, ⟨v, hb, hown⟩, SK.refl _ _ _⟩
theorem strCells_S8 (s : List UInt8) : Lib.strCells (Str s) = B8 s := rfl
theorem info_u8s : (Tryz.prog.info? 5).map (fun i => (i.zero, i.size, i.bytes)) = some (some (.int .u8 0), 1, 1) := by kernel_rfl
set_option maxRecDepth 100000 in
set_option maxHeartbeats 2000000 in
theorem sstr_any (base b : Nat) (l s : List UInt8) (w : World) (h : SB base w b l) (hl : l.length + s.length ≤ 1000000000) (hbase : base ≤ w.heap.size) :
    Calls Tryz.prog 17 #[.pointer (some ⟨b, 0, none⟩), .string (Str s)] w fun x w' => x = .returned (.tuple #[.int .i64 s.length, .nilIface]) ∧ SB base w' b (l ++ s) ∧ SK base b w w' := by
  obtain ⟨i0, hi, hz0, hz1, hz2⟩ := info_parts info_u8s
  have HC := Lib.hid (scopy_any base b l w h)
  have hss : (Str s).size = s.length := Str_size s
  clear h
  go_enter Tryz.func17, Tryz.ntmps17
  go_wp2_with (go_at_call 32; (with_reducible refine (HC.out).mono ?_))
  rintro x w1 ⟨rfl, ⟨v, hbk, hown⟩, hk1⟩
  have HK1 := Lib.hid hk1
  have hz := hk1.size
  have c0 : w1.cell? ⟨b, 0, none⟩ = some (.pointer (some ⟨b, 0, none⟩)) := by rw [Lib.cell_of_heap hbk]; rfl
  have c1 : w1.cell? ⟨b, 1, none⟩ = some v := by rw [Lib.cell_of_heap hbk]; rfl
  clear hk1
  go_wp2_with (at_builtin; refine Lib.wpList_append_own_stringF _ rfl _ _ 45 9 rfl base 5 i0 Tryz.underlying45 Tryz.underlying9 hi hz0 hz1 hz2 _ _ _ rfl hown (Str s) rfl ?c3 ?c4 ?c5 ?_)
  case c3 => rw [hss]; unfold maxLen; omega
  case c4 => rw [hss]; omega
  case c5 => omega
  intro v' w2 hown' hgrow _
  have hlt : b < w1.heap.size := (Array.getElem?_eq_some_iff.1 hbk).1
  have hne := Lib.ownBlock_neF hown hbk (by decide)
  have hb2 : w2.heap[b]? = some (.cells #[.pointer (some ⟨b, 0, none⟩), v] 47 (0, 0)) := by
    rw [hgrow.block b hlt (fun e => hne e.symm)]
    exact hbk
  have d0 : w2.cell? ⟨b, 0, none⟩ = some (.pointer (some ⟨b, 0, none⟩)) := by rw [Lib.cell_of_heap hb2]; rfl
  have d1 : w2.cell? ⟨b, 1, none⟩ = some v := by rw [Lib.cell_of_heap hb2]; rfl
  have f1 : w2.frozen? ⟨b, 1, none⟩ = false := Lib.frozen_of_heap hb2 1
  obtain ⟨ao, n', cap, hv'⟩ : ∃ ao n' cap, v' = .slice ao n' cap := by
    rcases hown'.2 with ⟨hv, _⟩ | ⟨g, cap, cur, fz, hv, _⟩
    · exact ⟨_, _, _, hv⟩
    · exact ⟨_, _, _, hv⟩
  have HW : Hid (SB base (w2.setCell ⟨b, 1, none⟩ (.slice ao n' cap)) b (l ++ s) ∧ SK base b w (w2.setCell ⟨b, 1, none⟩ (.slice ao n' cap))) := Lib.hid (by
    rw [← hv']
    have hne2 := Lib.ownBlock_neF hown' hb2 (by decide)
    refine ⟨⟨_, v', Or.inr rfl, by simp [World.setCell, Array.getElem?_modify, hb2], ?_⟩, (HK1.out.trans (SK.grown hown hgrow)).trans (SK.set _ _ _ _ _)⟩
    have h4 : w2.ownsRowF base 5 1 v' (l ++ s).length (B8 (l ++ s)) := by
      rw [List.length_append, B8_append, ← strCells_S8, ← hss]; exact hown'
    exact ownS_kept h4 fun g hg => Below.heap_setCell _ _ _ _ (fun e => hne2 (by rw [hg]; exact congrArg some e)))
  subst hv'
  clear hown hown' hgrow hne hbk hb2
  go_wp2
  go_ret2
  exact ⟨by rw [← hss]; rfl, HW.out.1, HW.out.2⟩
set_option maxRecDepth 100000 in
set_option maxHeartbeats 2000000 in
theorem stext_core (base b g cap : Nat) (l : List UInt8) (p : Value) (w : World) (hbk : w.heap[b]? = some (.cells #[p, .slice (some ⟨g, 0, none⟩) l.length cap] 47 (0, 0))) (hown : w.ownsRowF base 5 1 (.slice (some ⟨g, 0, none⟩) l.length cap) l.length (B8 l)) (h0 : l ≠ []) (hl : l.length ≤ 1000000000) :
    Calls Tryz.prog 19 #[.pointer (some ⟨b, 0, none⟩)] w fun x w' => x = .returned (.string (Str l)) ∧ w' = w.drew.freeze ⟨g, 0, none⟩ l.length := by
  have hl0 : l.length ≠ 0 := by simpa using h0
  obtain ⟨cur, fz, hbg, hg, hfz, hnc, hcm, hcs, htake⟩ : ∃ cur fz, base ≤ g ∧ w.heap[g]? = some (.cells cur 5 fz) ∧ fz.2 ≤ l.length * 1 ∧ l.length ≤ cap ∧ cap ≤ maxLen ∧ cur.size = cap * 1 ∧ cur.toList.take (l.length * 1) = B8 l := by
    rcases hown.2 with ⟨_, hz⟩ | ⟨g', cap', cur, fz, hv, r⟩
    · exact absurd hz hl0
    · injection hv with ha _ hcap
      injection ha with ha
      injection ha with hgg _ _
      subst hgg
      subst hcap
      exact ⟨cur, fz, r⟩
  have c1 : w.drew.cell? ⟨b, 1, none⟩ = some (.slice (some ⟨g, 0, none⟩) l.length cap) := by
    have : w.drew.heap[b]? = some (.cells #[p, .slice (some ⟨g, 0, none⟩) l.length cap] 47 (0, 0)) := hbk
    rw [Lib.cell_of_heap this]; rfl
  have hSD : (Builtin.unsafeSliceData_ #[45] 62 #[.slice (some ⟨g, 0, none⟩) l.length cap]).run Tryz.prog w.drew = .ok (.pointer (some ⟨g, 0, none⟩)) w.drew :=
    Lib.run_unsafeSliceData_row _ _ _ _ _ _ (by omega)
  have hc8 : Tryz.prog.cellsOf 5 = 1 := by kernel_rfl
  have hUS : (Builtin.unsafeString_ #[62, 3] 9 #[.pointer (some ⟨g, 0, none⟩), .int .i64 l.length]).run Tryz.prog w.drew = .ok (.string (Str l)) (w.drew.freeze ⟨g, 0, none⟩ l.length) := by
    refine Lib.run_unsafeString_row w.drew 62 3 9 5 Tryz.underlying62 hc8 g cur.size (by have hg' : w.drew.heap[g]? = some (.cells cur 5 fz) := hg; simp [World.shape?, hg']) l h0 (by omega) (by omega) ?_
    intro j x hx
    exact hown.cells (g := g) rfl j (.int .u8 x.toNat) (by simp [B8_get, hx])
  clear hown hbk hg htake
  go_enter Tryz.func19, Tryz.ntmps19
  go_wp2
  go_region
  all_goals (go_wp2; go_ret; exact ⟨rfl, rfl⟩)
theorem frz_blw {N g : Nat} {w : World} (h : N ≤ g) (n : Nat) : Below N w (w.drew.freeze ⟨g, 0, none⟩ n) := Lib.below_freeze (Below.drew (Below.refl N w)) (p := ⟨g, 0, none⟩) h n
/-- What String tells of one that holds something. -/
theorem stext_any {base b : Nat} {l : List UInt8} (w : World) (h : SB base w b l) (h0 : l ≠ []) (hl : l.length ≤ 1000000000) :
    Calls Tryz.prog 19 #[.pointer (some ⟨b, 0, none⟩)] w fun x w' => x = .returned (.string (Str l)) ∧ Below base w w' := by
  obtain ⟨p, v, hp, hbk, hown⟩ := h
  have hl0 : l.length ≠ 0 := by simpa using h0
  obtain ⟨g, cap, cur, fz, rfl, hbg, hg⟩ : ∃ g cap cur fz, v = .slice (some ⟨g, 0, none⟩) l.length cap ∧ base ≤ g ∧ w.heap[g]? = some (.cells cur 5 fz) := by
    rcases hown.2 with ⟨_, hz⟩ | ⟨g, cap, cur, fz, hv, hbg, hg, _⟩
    · exact absurd hz hl0
    · exact ⟨g, cap, cur, fz, hv, hbg, hg⟩
  refine (stext_core base b g cap l p w hbk hown h0 hl).mono ?_
  rintro x w' ⟨rfl, rfl⟩
  exact ⟨rfl, frz_blw hbg _⟩
end Go.Proofs.YtalnfjnfcloonaaGreatDoor

/-
  A text of numbers with a run of zeros left out is read back: plain mathematics.
-/
namespace Go.Proofs.YtalnfjnfcloonaaGreatDoor
open Go.RowKit
set_option linter.unusedVariables false

theorem flat2_len : ∀ ws : List Nat, (ws.flatMap (fun n => putL n 2)).length = 2 * ws.length
  | [] => rfl
  | a :: r => by rw [List.flatMap_cons, List.length_append, flat2_len r, putL_length]; simp; omega
theorem flat2_zero : ∀ n : Nat, (List.replicate n 0).flatMap (fun n => putL n 2) = List.replicate (2 * n) 0
  | 0 => rfl
  | n + 1 => by
    rw [List.replicate_succ, List.flatMap_cons, flat2_zero n, show 2 * (n + 1) = 2 * n + 1 + 1 by omega, List.replicate_succ, List.replicate_succ]
    rfl
theorem rough_gap (ws : List Nat) (h8 : ws.length = 8) (hle : ∀ n ∈ ws, n ≤ 65535) (a n : Nat) (han : a + n ≤ 8) (hz : (ws.drop a).take n = List.replicate n 0) :
    roughV (jnD D16 (ws.take a) ++ 58 :: 58 :: jnD D16 (ws.drop (a + n))) = ws.flatMap (fun n => putL n 2) := by
  unfold roughV
  rw [if_pos (has_colon _ _), cut_at _ _ (NoDC_jn _)]
  simp only
  rw [splH_jn (ws.take a) (fun n hn => hle n (List.mem_of_mem_take hn)), splH_jn (ws.drop (a + n)) (fun n hn => hle n (List.mem_of_mem_drop hn)), flat2_len, flat2_len, List.length_take, List.length_drop]
  have e : ws = ws.take a ++ (List.replicate n 0 ++ ws.drop (a + n)) := by
    rw [← hz, ← List.drop_drop, List.take_append_drop, List.take_append_drop]
  conv => rhs; rw [e, List.flatMap_append, List.flatMap_append, flat2_zero]
  rw [show 16 - 2 * min a ws.length - 2 * (ws.length - (a + n)) = 2 * n by omega]
theorem rough_all (ws : List Nat) (h8 : ws.length = 8) (hle : ∀ n ∈ ws, n ≤ 65535) : roughV (jnD D16 ws) = ws.flatMap (fun n => putL n 2) := by
  have hc : 0 ≤ Lib.indexByte (jnD D16 ws) 58 := by
    obtain ⟨b0, b1, b2, b3, b4, b5, b6, b7, rfl⟩ := list8 h8
    rw [jnD_cons2]
    exact has_colon _ _
  unfold roughV
  rw [if_pos hc, cut_none _ (NoDC_jn _)]
  simp only
  rw [splH_jn ws hle, flat2_len, h8]
  simp [splH]
theorem rough_dots (ns : List Nat) (h4 : ns.length = 4) (hle : ∀ n ∈ ns, n ≤ 255) : roughV (Lib.join (ns.map (numD 10)) [46]) = ns.flatMap (fun n => putL n 1) := by
  have hne : ns ≠ [] := by rintro rfl; simp at h4
  have hm : ∀ (ds : List (List UInt8)), (∀ d ∈ ds, ∀ x ∈ d, x ≠ 58) → ∀ x ∈ Lib.join ds [46], x ≠ 58 := by
    intro ds
    induction ds with
    | nil => intro _ x hx; simp [Lib.join_nil] at hx
    | cons d r ih =>
      intro h x hx
      cases r with
      | nil => rw [Lib.join_one] at hx; exact h d (by simp) x hx
      | cons e t =>
        have e1 : Lib.join (d :: e :: t) [46] = d ++ (46 :: Lib.join (e :: t) [46]) := by simp [Lib.join, List.intercalate]
        rw [e1] at hx
        rcases List.mem_append.1 hx with hx | hx
        · exact h d (by simp) x hx
        · rcases List.mem_cons.1 hx with rfl | hx
          · decide
          · exact ih (fun d' hd' => h d' (by simp at hd' ⊢; exact .inr hd')) x hx
  have hc := no_colon (Lib.join (ns.map (numD 10)) [46]) (hm _ (by
    intro d hd x hx
    obtain ⟨n, _, rfl⟩ := List.mem_map.1 hd
    exact (digs_mem 10 (by omega) (by omega) 5 n x hx).1))
  unfold roughV
  rw [hc, if_neg (by omega), splD_jn ns hne hle]

theorem zero_all (b0 b1 b2 b3 b4 b5 b6 b7 : Bool) : decide ((([b0, b1, b2, b3, b4, b5, b6, b7].drop (gapB [b0, b1, b2, b3, b4, b5, b6, b7] 8).1).take (gapB [b0, b1, b2, b3, b4, b5, b6, b7] 8).2.1) = List.replicate (gapB [b0, b1, b2, b3, b4, b5, b6, b7] 8).2.1 true) = true := by
  revert b0 b1 b2 b3 b4 b5 b6 b7
  decide +kernel
theorem gap_zero (ws : List Nat) (h : ws.length = 8) : (ws.drop (gapK ws 8).1).take (gapK ws 8).2.1 = List.replicate (gapK ws 8).2.1 0 := by
  rw [gapK_B]
  have hz : ((zsB ws).drop (gapB (zsB ws) 8).1).take (gapB (zsB ws) 8).2.1 = List.replicate (gapB (zsB ws) 8).2.1 true := by
    obtain ⟨b0, b1, b2, b3, b4, b5, b6, b7, e⟩ := list8 (l := zsB ws) (by unfold zsB; rw [List.length_map, h])
    rw [e]
    exact of_decide_eq_true (zero_all b0 b1 b2 b3 b4 b5 b6 b7)
  generalize (gapB (zsB ws) 8).1 = f at *
  generalize (gapB (zsB ws) 8).2.1 = m at *
  have hz2 : ((ws.drop f).take m).map (fun n => decide (n = 0)) = List.replicate m true := by
    unfold zsB at hz
    rw [List.map_take, List.map_drop]
    exact hz
  rw [List.eq_replicate_iff] at hz2 ⊢
  refine ⟨by simpa using hz2.1, fun b hb => ?_⟩
  have := hz2.2 _ (List.mem_map_of_mem (f := fun n => decide (n = 0)) hb)
  simpa using this
end Go.Proofs.YtalnfjnfcloonaaGreatDoor

