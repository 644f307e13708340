/-
  Texts joined: IgU, IgV, IgW.
-/
import Derived.Test.YtlbdehegknehiaaGreatMg00
import Derived.Test.YtlbdehegknehiaaGreatChecked
import Derived.Lib.FrozenHead
import Derived.Deep.RegionHeld3
import Derived.Deep.Cut
import Derived.BigQuiet
import Derived.LoopTactic
import Derived.Deep.QuietTactic
import Derived.Test.YtlbdehegknehiaaGreatMg02
import Derived.Test.YtlbdehegknehiaaGreatMg23
import Derived.Test.YtlbdehegknehiaaGreatCodP
/- A part of the proof. -/
namespace Go.Proofs.YtlbdehegknehiaaGreat
set_option maxRecDepth 100000
set_option maxHeartbeats 1000000
open Go.RowKit
set_option linter.unusedVariables false
set_option linter.unusedSimpArgs false
def WB (base : Nat) (W : World) (b : Nat) (l : List UInt8) : Prop :=
  ∃ p v, (p = .pointer none ∨ p = .pointer (some ⟨b, 0, none⟩)) ∧ W.heap[b]? = some (.cells #[p, v] 156 (0, 0)) ∧ W.ownsRowF base 5 1 v l.length (B8 l)
structure WK (base b : Nat) (w w' : World) : Prop where
  os : w'.os = w.os
  tape : w'.tape = w.tape
  output : w'.output = w.output
  size : w.heap.size ≤ w'.heap.size
  block : ∀ i, i < w.heap.size → i ≠ b → (i < base ∨ ∀ cur fz, w.heap[i]? ≠ some (.cells cur 5 fz)) → w'.heap[i]? = w.heap[i]?
theorem WK.refl (base b : Nat) (w : World) : WK base b w w := ⟨rfl, rfl, rfl, Nat.le_refl _, fun _ _ _ _ => rfl⟩
theorem WK.trans {base b : Nat} {w w1 w2 : World} (h : WK base b w w1) (k : WK base b w1 w2) : WK base b w w2 :=
  ⟨k.os.trans h.os, k.tape.trans h.tape, k.output.trans h.output, Nat.le_trans h.size k.size, fun i hi hb ho => by
    have e := h.block i hi hb ho
    refine (k.block i (Nat.lt_of_lt_of_le hi h.size) hb ?_).trans e
    rcases ho with ho | ho
    · exact Or.inl ho
    · right; intro cur fz; rw [e]; exact ho cur fz⟩
theorem WK.of {base b : Nat} {w w' : World} (k : Below w.heap.size w w') : WK base b w w' := ⟨k.os, k.tape, k.output, k.size, fun i hi _ _ => k.block i hi⟩
theorem WK.set (base b j : Nat) (w : World) (v : Value) : WK base b w (w.setCell ⟨b, j, none⟩ v) :=
  ⟨rfl, rfl, rfl, by simp [World.setCell], fun i _ hb _ => Below.heap_setCell _ _ _ _ (fun e => hb (by simp [e]))⟩
theorem WK.grown {base b n : Nat} {w w' : World} {v : Value} {xs : List Value} (hown : w.ownsRowF base 5 1 v n xs) (hg : w.grownBy w' v.ownBlock) : WK base b w w' :=
  ⟨hg.os, hg.tape, hg.output, hg.size, fun i hi hb ho => hg.block i hi (fun e => by
    rcases hown.2 with ⟨rfl, _⟩ | ⟨g, cap, cur, fz, rfl, hbg, hgg, _⟩
    · simp [Value.ownBlock] at e
    · simp only [Value.ownBlock, Option.some.injEq] at e
      subst e
      rcases ho with ho | ho
      · omega
      · exact ho cur fz hgg)⟩
theorem WK.blw {base b N : Nat} {w w' : World} (h : WK base b w w') (h1 : N ≤ base) (h2 : N ≤ b) (h3 : N ≤ w.heap.size) : Below N w w' :=
  ⟨h.os, h.tape, h.output, h.size, fun i hi => h.block i (by omega) (by omega) (Or.inl (by omega))⟩
theorem ObjAt.wk {base b m : Nat} {w w' : World} {L : Array Value} {T : TypeId} (h : ObjAt w m L T) (hk : WK base b w w') (hm : m ≠ b) (hT : T ≠ 5) : ObjAt w' m L T := by
  have hlt := h.lt
  unfold ObjAt at h ⊢
  rw [hk.block m hlt hm (Or.inr fun cur fz e => by rw [h] at e; simp only [Option.some.injEq, Obj.cells.injEq] at e; exact hT e.2.1)]
  exact h
theorem WB.lt {base b : Nat} {w : World} {l : List UInt8} (h : WB base w b l) : b < w.heap.size := by
  obtain ⟨p, v, _, hb, _⟩ := h
  exact (Array.getElem?_eq_some_iff.1 hb).1
theorem ownF_kept {w w' : World} {base n : Nat} {v : Value} {xs : List Value} (h : w.ownsRowF base 5 1 v n xs) (hk : ∀ g, v.ownBlock = some g → w'.heap[g]? = w.heap[g]?) : w'.ownsRowF base 5 1 v n xs := by
  refine ⟨h.1, ?_⟩
  rcases h.2 with hn | ⟨g, cap, cur, fz, rfl, hbg, hgg, rest⟩
  · exact .inl hn
  · exact .inr ⟨g, cap, cur, fz, rfl, hbg, (hk g rfl).trans hgg, rest⟩
theorem WB.below {base b : Nat} {w w' : World} {l : List UInt8} (h : WB base w b l) (hb : Below w.heap.size w w') : WB base w' b l := by
  have hlt := h.lt
  obtain ⟨p, v, h1, h2, h3⟩ := h
  exact ⟨p, v, h1, (hb.block b hlt).trans h2, ownF_kept h3 fun g hg => hb.block g (h3.lt g hg).2⟩
theorem WB.far {base b b2 : Nat} {w w' : World} {l m : List UInt8} {base2 : Nat} (h : WB base w b l) (h2 : WB base2 w b2 m) (hne : b ≠ b2) (hk : WK w.heap.size b2 w w') : WB base w' b l := by
  have hlt := h.lt
  obtain ⟨p, v, g1, g2, g3⟩ := h
  obtain ⟨p2, v2, _, k2, _⟩ := h2
  refine ⟨p, v, g1, (hk.block b hlt hne (Or.inl hlt)).trans g2, ownF_kept g3 fun g hg => ?_⟩
  have hgl := (g3.lt g hg).2
  refine hk.block g hgl (fun e => ?_) (Or.inl hgl)
  subst e
  rcases g3.2 with ⟨rfl, _⟩ | ⟨g', cap, cur, fz, rfl, _, hgg, _⟩
  · simp [Value.ownBlock] at hg
  · simp only [Value.ownBlock, Option.some.injEq] at hg
    subst hg
    rw [hgg] at k2
    simp at k2
theorem WB.new {b : Nat} {w : World} (h : ObjAt w b #[.pointer none, .slice none 0 0] 156) (base : Nat) : WB base w b [] := ⟨_, _, Or.inl rfl, h, World.ownsRowF_nil _ _ _ _⟩
theorem copy_used (b : Nat) (w : World) (h0 : w.cell? ⟨b, 0, none⟩ = some (.pointer (some ⟨b, 0, none⟩))) :
    Calls Tryz.prog 214 #[.pointer (some ⟨b, 0, none⟩)] w fun e w' => e = .returned (.tuple #[]) ∧ w' = w := by
  obtain ⟨j, hj⟩ := info_of Tryz.underlying154
  go_enter Tryz.func214, Tryz.ntmps214
  go_wp2
  rw [Lib.run_neq_ptr_same w _ Tryz.underlying152 hj]
  go_wp2
  go_end0
  exact ⟨rfl, rfl⟩
theorem copy_fresh (b : Nat) (w : World) (h0 : w.cell? ⟨b, 0, none⟩ = some (.pointer none)) (hsh : w.shape? b = some (156, 2)) (hfz : w.frozen? ⟨b, 0, none⟩ = false) :
    Calls Tryz.prog 214 #[.pointer (some ⟨b, 0, none⟩)] w fun e w' => e = .returned (.tuple #[]) ∧ w' = w.setCell ⟨b, 0, none⟩ (.pointer (some ⟨b, 0, none⟩)) := by
  have hs0 : (Tryz.prog.info? 154).map (·.size) = some 2 := by kernel_rfl
  obtain ⟨j, hj, hjs⟩ := Option.map_eq_some_iff.1 hs0
  go_enter Tryz.func214, Tryz.ntmps214
  go_wp2
  rw [Lib.run_to_unsafe w ⟨b, 0, none⟩ Tryz.underlying152 Tryz.underlying208 hj (by rw [hjs]; decide) hsh (Nat.zero_lt_succ 1)]
  simp only [Result.andThen]
  rw [Oper.upon_value]
  go_wp2
  rw [run_callFunc_extern Tryz.func229 (by kernel_rfl) (by kernel_rfl) (by kernel_rfl) (e := Extern.AbiNoEscape.same) (by kernel_rfl)]
  rw [Lib.run_noEscape]
  simp only [Result.andThen]
  rw [Oper.upon_value]
  go_wp2
  rw [Lib.run_from_unsafe w ⟨b, 0, none⟩ Tryz.underlying208 Tryz.underlying152 hj hsh (by kernel_rfl)]
  simp only [Result.andThen]
  rw [Oper.upon_value]
  go_wp2
  go_end0
  exact ⟨rfl, rfl⟩
end Go.Proofs.YtlbdehegknehiaaGreat

/- A part of the proof. -/
namespace Go.Proofs.YtlbdehegknehiaaGreat
set_option maxRecDepth 100000
set_option maxHeartbeats 2000000
open Go.RowKit
set_option linter.unusedVariables false
set_option linter.unusedSimpArgs false
theorem wcopy_any (base b : Nat) (l : List UInt8) (w : World) (h : WB base w b l) : Calls Tryz.prog 214 #[.pointer (some ⟨b, 0, none⟩)] w fun x w' => x = .returned (.tuple #[]) ∧ (∃ v, w'.heap[b]? = some (.cells #[.pointer (some ⟨b, 0, none⟩), v] 156 (0, 0)) ∧ w'.ownsRowF base 5 1 v l.length (B8 l)) ∧ WK base b w w' := by
  obtain ⟨p, v, hp, hb, hown⟩ := h
  have c0 : w.cell? ⟨b, 0, none⟩ = some p := by simp [World.cell?, hb]
  rcases hp with rfl | rfl
  · refine (copy_fresh b w c0 (by simp [World.shape?, hb]) (by simp [World.frozen?, hb])).mono ?_
    rintro x w' ⟨rfl, rfl⟩
    have hne := Lib.ownBlock_neF hown hb (by decide)
    refine ⟨rfl, ⟨v, by simp [World.setCell, Array.getElem?_modify, hb], ownF_kept hown fun g hg => Below.heap_setCell _ _ _ _ (fun e => hne (by rw [hg]; exact congrArg some e))⟩, WK.set _ _ _ _ _⟩
  · refine (copy_used b w c0).mono ?_
    rintro x w' ⟨rfl, rfl⟩
    exact ⟨rfl, ⟨v, hb, hown⟩, WK.refl _ _ _⟩
theorem strCells_B8 (s : List UInt8) : Lib.strCells (Str s) = B8 s := rfl
theorem info_u8w : (Tryz.prog.info? 5).map (fun i => (i.zero, i.size, i.bytes)) = some (some (.int .u8 0), 1, 1) := by kernel_rfl
theorem wstr_any (base b : Nat) (l s : List UInt8) (w : World) (h : WB base w b l) (hl : l.length + s.length ≤ 1000000000) (hbase : base ≤ w.heap.size) :
    Calls Tryz.prog 193 #[.pointer (some ⟨b, 0, none⟩), .string (Str s)] w fun x w' => x = .returned (.tuple #[.int .i64 s.length, .nilIface]) ∧ WB base w' b (l ++ s) ∧ WK base b w w' := by
  obtain ⟨i0, hi, hz0, hz1, hz2⟩ := info_parts info_u8w
  have HC := zh (wcopy_any base b l w h)
  have hss : (Str s).size = s.length := Str_size s
  clear h
  go_enter Tryz.func193, Tryz.ntmps193
  go_wp2_with (go_at_call 214; (with_reducible refine (HC.out).mono ?_))
  rintro x w1 ⟨rfl, ⟨v, hbk, hown⟩, hk1⟩
  have HK1 := zh hk1
  have hz := hk1.size
  have c0 : w1.cell? ⟨b, 0, none⟩ = some (.pointer (some ⟨b, 0, none⟩)) := by rw [Lib.cell_of_heap hbk]; rfl
  have c1 : w1.cell? ⟨b, 1, none⟩ = some v := by rw [Lib.cell_of_heap hbk]; rfl
  clear hk1
  go_wp2_with (at_builtin; refine Lib.wpList_append_own_stringF _ rfl _ _ 94 9 rfl base 5 i0 Tryz.underlying94 Tryz.underlying9 hi hz0 hz1 hz2 _ _ _ rfl hown (Str s) rfl ?c3 ?c4 ?c5 ?_)
  case c3 => rw [hss]; unfold maxLen; omega
  case c4 => rw [hss]; omega
  case c5 => omega
  intro v' w2 hown' hgrow _
  have hlt : b < w1.heap.size := (Array.getElem?_eq_some_iff.1 hbk).1
  have hne := Lib.ownBlock_neF hown hbk (by decide)
  have hb2 : w2.heap[b]? = some (.cells #[.pointer (some ⟨b, 0, none⟩), v] 156 (0, 0)) := by
    rw [hgrow.block b hlt (fun e => hne e.symm)]
    exact hbk
  have d0 : w2.cell? ⟨b, 0, none⟩ = some (.pointer (some ⟨b, 0, none⟩)) := by rw [Lib.cell_of_heap hb2]; rfl
  have d1 : w2.cell? ⟨b, 1, none⟩ = some v := by rw [Lib.cell_of_heap hb2]; rfl
  have f1 : w2.frozen? ⟨b, 1, none⟩ = false := Lib.frozen_of_heap hb2 1
  obtain ⟨ao, n', cap, hv'⟩ : ∃ ao n' cap, v' = .slice ao n' cap := by
    rcases hown'.2 with ⟨hv, _⟩ | ⟨g, cap, cur, fz, hv, _⟩
    · exact ⟨_, _, _, hv⟩
    · exact ⟨_, _, _, hv⟩
  have HW : Hid (WB base (w2.setCell ⟨b, 1, none⟩ (.slice ao n' cap)) b (l ++ s) ∧ WK base b w (w2.setCell ⟨b, 1, none⟩ (.slice ao n' cap))) := zh (by
    rw [← hv']
    have hne2 := Lib.ownBlock_neF hown' hb2 (by decide)
    refine ⟨⟨_, v', Or.inr rfl, by simp [World.setCell, Array.getElem?_modify, hb2], ?_⟩, (HK1.out.trans (WK.grown hown hgrow)).trans (WK.set _ _ _ _ _)⟩
    have h4 : w2.ownsRowF base 5 1 v' (l ++ s).length (B8 (l ++ s)) := by
      rw [List.length_append, B8_append, ← strCells_B8, ← hss]; exact hown'
    exact ownF_kept h4 fun g hg => Below.heap_setCell _ _ _ _ (fun e => hne2 (by rw [hg]; exact congrArg some e)))
  subst hv'
  clear hown hown' hgrow hne hbk hb2
  go_wp2
  go_ret2
  exact ⟨by rw [← hss]; rfl, HW.out.1, HW.out.2⟩
theorem frz_kept {w : World} {g : Nat} {i n : Nat} (h : i ≠ g) : (w.freeze ⟨g, 0, none⟩ n).heap[i]? = w.heap[i]? := by
  unfold World.freeze
  split
  · rfl
  · simp only [Array.getElem?_modify]
    rw [if_neg (fun e => h e.symm)]
theorem WB.froze {base b g cap : Nat} {l : List UInt8} {w : World} {p : Value} (hp : p = .pointer none ∨ p = .pointer (some ⟨b, 0, none⟩)) (hb : w.heap[b]? = some (.cells #[p, .slice (some ⟨g, 0, none⟩) l.length cap] 156 (0, 0))) (hown : w.ownsRowF base 5 1 (.slice (some ⟨g, 0, none⟩) l.length cap) l.length (B8 l)) :
    WB base (w.freeze ⟨g, 0, none⟩ l.length) b l := by
  have hne := Lib.ownBlock_neF hown hb (by decide)
  have hgb : b ≠ g := fun e => hne (by simp [Value.ownBlock, e])
  refine ⟨p, _, hp, (frz_kept hgb).trans hb, ⟨hown.1, ?_⟩⟩
  rcases hown.2 with ⟨hv, _⟩ | ⟨g', cap', cur, fz, hv, hbg, hg, hfz, rest⟩
  · cases hv
  · injection hv with ha _ hcap
    injection ha with ha
    injection ha with hgg _ _
    subst hgg
    subst hcap
    unfold World.freeze
    split
    · exact .inr ⟨g, _, cur, fz, rfl, hbg, hg, hfz, rest⟩
    · obtain ⟨lo, hi⟩ := fz
      refine .inr ⟨g, _, cur, (if lo == hi then (0, 0 + l.length) else (min lo 0, max hi (0 + l.length))), rfl, hbg, ?_, ?_, rest⟩
      · simp [Array.getElem?_modify, hg]
      · simp only at hfz
        split <;> simp <;> omega
theorem wtext_core (base b g cap : Nat) (l : List UInt8) (p : Value) (w : World) (hbk : w.heap[b]? = some (.cells #[p, .slice (some ⟨g, 0, none⟩) l.length cap] 156 (0, 0))) (hown : w.ownsRowF base 5 1 (.slice (some ⟨g, 0, none⟩) l.length cap) l.length (B8 l)) (h0 : l ≠ []) (hl : l.length ≤ 1000000000) :
    Calls Tryz.prog 159 #[.pointer (some ⟨b, 0, none⟩)] w fun x w' => x = .returned (.string (Str l)) ∧ w' = w.drew.freeze ⟨g, 0, none⟩ l.length := by
  have hl0 : l.length ≠ 0 := by simpa using h0
  obtain ⟨cur, fz, hbg, hg, hfz, hnc, hcm, hcs, htake⟩ : ∃ cur fz, base ≤ g ∧ w.heap[g]? = some (.cells cur 5 fz) ∧ fz.2 ≤ l.length * 1 ∧ l.length ≤ cap ∧ cap ≤ maxLen ∧ cur.size = cap * 1 ∧ cur.toList.take (l.length * 1) = B8 l := by
    rcases hown.2 with ⟨_, hz⟩ | ⟨g', cap', cur, fz, hv, r⟩
    · exact absurd hz hl0
    · injection hv with ha _ hcap
      injection ha with ha
      injection ha with hgg _ _
      subst hgg
      subst hcap
      exact ⟨cur, fz, r⟩
  have c1 : w.drew.cell? ⟨b, 1, none⟩ = some (.slice (some ⟨g, 0, none⟩) l.length cap) := by
    have : w.drew.heap[b]? = some (.cells #[p, .slice (some ⟨g, 0, none⟩) l.length cap] 156 (0, 0)) := hbk
    rw [Lib.cell_of_heap this]; rfl
  have hSD : (Builtin.unsafeSliceData_ #[94] 185 #[.slice (some ⟨g, 0, none⟩) l.length cap]).run Tryz.prog w.drew = .ok (.pointer (some ⟨g, 0, none⟩)) w.drew :=
    Lib.run_unsafeSliceData_row _ _ _ _ _ _ (by omega)
  have hc8 : Tryz.prog.cellsOf 5 = 1 := by kernel_rfl
  have hUS : (Builtin.unsafeString_ #[185, 3] 9 #[.pointer (some ⟨g, 0, none⟩), .int .i64 l.length]).run Tryz.prog w.drew = .ok (.string (Str l)) (w.drew.freeze ⟨g, 0, none⟩ l.length) := by
    refine Lib.run_unsafeString_row w.drew 185 3 9 5 Tryz.underlying185 hc8 g cur.size (by have hg' : w.drew.heap[g]? = some (.cells cur 5 fz) := hg; simp [World.shape?, hg']) l h0 (by omega) (by omega) ?_
    intro j x hx
    exact hown.cells (g := g) rfl j (.int .u8 x.toNat) (by simp [B8_get, hx])
  clear hown hbk hg htake
  go_enter Tryz.func159, Tryz.ntmps159
  go_wp2
  go_region
  all_goals (go_wp2; go_ret; exact ⟨rfl, rfl⟩)
def WT (top : Nat) (W : World) (b : Nat) (l : List UInt8) : Prop :=
  ∃ p v, (p = .pointer none ∨ p = .pointer (some ⟨b, 0, none⟩)) ∧ W.heap[b]? = some (.cells #[p, v] 156 (0, 0)) ∧ W.ownsRowF 0 5 1 v l.length (B8 l) ∧ ∀ g, v.ownBlock = some g → g < top
theorem WB.top {base b : Nat} {w : World} {l : List UInt8} (h : WB base w b l) : WT w.heap.size w b l := by
  obtain ⟨p, v, h1, h2, h3⟩ := h
  refine ⟨p, v, h1, h2, ⟨h3.1, ?_⟩, fun g hg => (h3.lt g hg).2⟩
  rcases h3.2 with hn | ⟨g, cap, cur, fz, hv, hbg, rest⟩
  · exact .inl hn
  · exact .inr ⟨g, cap, cur, fz, hv, Nat.zero_le _, rest⟩
theorem WT.keep {top b : Nat} {w w' : World} {l : List UInt8} (h : WT top w b l) (hb : w'.heap[b]? = w.heap[b]?) (hk : ∀ g, g < top → (∃ cur fz, w.heap[g]? = some (.cells cur 5 fz)) → w'.heap[g]? = w.heap[g]?) : WT top w' b l := by
  obtain ⟨p, v, h1, h2, h3, h4⟩ := h
  refine ⟨p, v, h1, hb.trans h2, ownF_kept h3 fun g hg => hk g (h4 g hg) ?_, h4⟩
  rcases h3.2 with ⟨rfl, _⟩ | ⟨g', cap, cur, fz, rfl, _, hgg, _⟩
  · simp [Value.ownBlock] at hg
  · simp only [Value.ownBlock, Option.some.injEq] at hg
    subst hg
    exact ⟨cur, fz, hgg⟩
structure W2 (base a b : Nat) (la lb : List UInt8) (w : World) : Prop where
  wa : WT base w a la
  wb : WB base w b lb
  ne : a ≠ b
theorem W2.below {base a b : Nat} {la lb : List UInt8} {w w' : World} (h : W2 base a b la lb w) (hk : Below w.heap.size w w') : W2 base a b la lb w' := by
  refine ⟨h.wa.keep ?_ (fun g _ ⟨cur, fz, hg⟩ => hk.block g (Array.getElem?_eq_some_iff.1 hg).1), h.wb.below hk, h.ne⟩
  obtain ⟨p, v, _, h2, _⟩ := h.wa
  exact hk.block a (Array.getElem?_eq_some_iff.1 h2).1
theorem frz_below {N g : Nat} {w : World} (h : N ≤ g) (n : Nat) : Below N w (w.drew.freeze ⟨g, 0, none⟩ n) := Lib.below_freeze (Below.drew (Below.refl N w)) (p := ⟨g, 0, none⟩) h n
theorem wtext_a {base a b N : Nat} {la lb : List UInt8} (w : World) (h : W2 base a b la lb w) (h0 : la ≠ []) (hl : la.length ≤ 1000000000) (hN : ∀ p v g, w.heap[a]? = some (.cells #[p, v] 156 (0, 0)) → v.ownBlock = some g → N ≤ g) :
    Calls Tryz.prog 159 #[.pointer (some ⟨a, 0, none⟩)] w fun x w' => x = .returned (.string (Str la)) ∧ W2 base a b la lb w' ∧ Below N w w' ∧ (∀ p v g, w'.heap[a]? = some (.cells #[p, v] 156 (0, 0)) → v.ownBlock = some g → N ≤ g) := by
  obtain ⟨p, v, hp, hbk, hown, htop⟩ := h.wa
  have hl0 : la.length ≠ 0 := by simpa using h0
  obtain ⟨g, cap, cur, fz, rfl, hg⟩ : ∃ g cap cur fz, v = .slice (some ⟨g, 0, none⟩) la.length cap ∧ w.heap[g]? = some (.cells cur 5 fz) := by
    rcases hown.2 with ⟨_, hz⟩ | ⟨g, cap, cur, fz, hv, _, hg, _⟩
    · exact absurd hz hl0
    · exact ⟨g, cap, cur, fz, hv, hg⟩
  have hgt := htop g rfl
  have hgN := hN p _ g hbk rfl
  refine (wtext_core 0 a g cap la p w hbk hown h0 hl).mono ?_
  rintro x w' ⟨rfl, rfl⟩
  have hne : g ≠ a := fun e => by subst e; rw [hg] at hbk; simp at hbk
  refine ⟨rfl, ⟨?_, ?_, h.ne⟩, frz_below hgN _, ?_⟩
  · obtain ⟨p2, v2, q1, q2, q3⟩ := WB.froze (w := w.drew) hp hbk hown
    have e : (w.drew.freeze ⟨g, 0, none⟩ la.length).heap[a]? = some (.cells #[p, .slice (some ⟨g, 0, none⟩) la.length cap] 156 (0, 0)) := (frz_kept (w := w.drew) hne.symm).trans hbk
    refine ⟨p2, v2, q1, q2, q3, fun g' hg' => ?_⟩
    rw [e] at q2
    simp only [Option.some.injEq, Obj.cells.injEq] at q2
    have : v2 = .slice (some ⟨g, 0, none⟩) la.length cap := by
      have := q2.1
      simp at this
      exact this.2.symm
    subst this
    simp [Value.ownBlock] at hg'
    omega
  · obtain ⟨p2, v2, q1, q2, q3⟩ := h.wb
    have hgb : b ≠ g := fun e => by subst e; rw [hg] at q2; simp at q2
    refine ⟨p2, v2, q1, (frz_kept (w := w.drew) hgb).trans q2, ownF_kept q3 fun g2 hg2 => frz_kept (w := w.drew) (by have := (q3.lt g2 hg2).1; omega)⟩
  · intro p3 v3 g3 e3 hv3
    have e : (w.drew.freeze ⟨g, 0, none⟩ la.length).heap[a]? = some (.cells #[p, .slice (some ⟨g, 0, none⟩) la.length cap] 156 (0, 0)) := (frz_kept (w := w.drew) hne.symm).trans hbk
    rw [e] at e3
    exact hN p3 v3 g3 (hbk.trans e3) hv3
theorem wtext_b {base a b N : Nat} {la lb : List UInt8} (w : World) (h : W2 base a b la lb w) (h0 : lb ≠ []) (hl : lb.length ≤ 1000000000) (hNb : N ≤ base) (hN : ∀ p v g, w.heap[a]? = some (.cells #[p, v] 156 (0, 0)) → v.ownBlock = some g → N ≤ g) :
    Calls Tryz.prog 159 #[.pointer (some ⟨b, 0, none⟩)] w fun x w' => x = .returned (.string (Str lb)) ∧ W2 base a b la lb w' ∧ Below N w w' ∧ (∀ p v g, w'.heap[a]? = some (.cells #[p, v] 156 (0, 0)) → v.ownBlock = some g → N ≤ g) := by
  obtain ⟨p, v, hp, hbk, hown⟩ := h.wb
  have hl0 : lb.length ≠ 0 := by simpa using h0
  obtain ⟨g, cap, cur, fz, rfl, hbg, hg⟩ : ∃ g cap cur fz, v = .slice (some ⟨g, 0, none⟩) lb.length cap ∧ base ≤ g ∧ w.heap[g]? = some (.cells cur 5 fz) := by
    rcases hown.2 with ⟨_, hz⟩ | ⟨g, cap, cur, fz, hv, hbg, hg, _⟩
    · exact absurd hz hl0
    · exact ⟨g, cap, cur, fz, hv, hbg, hg⟩
  refine (wtext_core base b g cap lb p w hbk hown h0 hl).mono ?_
  rintro x w' ⟨rfl, rfl⟩
  have hne : a ≠ g := fun e => by
    obtain ⟨p2, v2, _, q2, _⟩ := h.wa
    subst e; rw [hg] at q2; simp at q2
  have ea := frz_kept (w := w.drew) (n := lb.length) hne
  refine ⟨rfl, ⟨h.wa.keep ea (fun g2 h2 _ => frz_kept (w := w.drew) (by omega)), WB.froze (w := w.drew) hp hbk hown, h.ne⟩, frz_below (by omega) _, fun p3 v3 g3 e3 hv3 => hN p3 v3 g3 (ea.symm.trans e3) hv3⟩
end Go.Proofs.YtlbdehegknehiaaGreat

/- A part of the proof. -/
namespace Go.Proofs.YtlbdehegknehiaaGreat
set_option maxRecDepth 100000
set_option maxHeartbeats 2000000
open Go.RowKit
set_option linter.unusedVariables false
set_option linter.unusedSimpArgs false
attribute [local go_sem ↓] ld_addr st_addr bld_addr ld_rec st_rec
attribute [local go_sem] ldr_addr str_addr ldr_rec str_rec
theorem clamp8 (k : Nat) (h : k ≤ 8) : clampN (k : Int) 8 = k := by unfold clampN; split <;> omega
theorem putw_any (n : Nat) (hn : n < 18446744073709551616) (k : Nat) (hk : k ≤ 8) (w : World) : Calls Tryz.prog 73 #[.int .u64 n, .int .i64 k] w fun e w' => e = .returned (.string (Str (putL n k))) ∧ Below w.heap.size w w' := by
  have := put_any n hn k w
  rw [clamp8 k hk] at this
  exact this
theorem wnum_any (base b : Nat) (l : List UInt8) (n k : Nat) (w : World) (hn : n ≤ 1000000000) (hk : k ≤ 8) (h : WB base w b l) (hl : l.length ≤ 100000000) (hbase : base ≤ w.heap.size) :
    Calls Tryz.prog 153 #[.pointer (some ⟨b, 0, none⟩), .int .i64 n, .int .i64 k] w fun x w' => x = .returned (.tuple #[]) ∧ WB base w' b (l ++ putL n k) ∧ WK base b w w' := by
  have HP := zh (fun W => putw_any n (by omega) k hk W)
  have HL := zh (show l.length + (putL n k).length ≤ 1000000000 by rw [putL_length]; omega)
  have hw : IntKind.u64.wrap (n : Int) = (n : Int) := by simp only [IntKind.wrap_u64]; omega
  go_enter Tryz.func153, Tryz.ntmps153
  refine wp_region_held_drew (S := fun _ => True) (by kernel_rfl) (trivial) (fun hHeld => ?_)
  have Hq := zh (show WB base w.drew b l from h)
  have Kq := zh (show WK base b w w.drew from ⟨rfl, rfl, rfl, Nat.le_refl _, fun _ _ _ _ => rfl⟩)
  generalize World.drew _ = Wq at Hq Kq hHeld ⊢
  clear h
  refine wpAnyH_take (i := 0) (oi := { dst := some 6, op := _, type := _, pos := _, after := _, guard := _ }) (v := ?hv1) rfl (by kernel_rfl) (by kernel_rfl) (by kernel_rfl) (fun _ _ _ h => h) (Or.inl ⟨by rfl, ?hy1⟩) (by assumption) ?hr1
  case hy1 => (intro w hSw; go_simp; try with_reducible rfl)
  try simp only [Act.put, zsA, zsZ, zsS]
  refine wpAnyH_take (i := 1) (oi := { dst := some 7, op := _, type := _, pos := _, after := _, guard := _ }) (v := ?hv2) rfl (by kernel_rfl) (by kernel_rfl) (by kernel_rfl) (fun _ _ _ h => h) (Or.inl ⟨by rfl, ?hy2⟩) (by assumption) ?hr2
  case hy2 => (intro w hSw; go_simp; try with_reducible rfl)
  try simp only [Act.put, zsA, zsZ, zsS]
  refine wpAnyH_take (i := 2) (oi := { dst := some 8, op := _, type := _, pos := _, after := _, guard := _ }) (v := ?hv3) rfl (by kernel_rfl) (by kernel_rfl) (by kernel_rfl) (fun _ _ _ h => h) (Or.inl ⟨by rfl, ?hy3⟩) (by assumption) ?hr3
  case hy3 => (intro w hSw; go_simp; try with_reducible rfl)
  try simp only [Act.put, zsA, zsZ, zsS]
  refine wpAnyH_take (i := 3) (oi := { dst := some 9, op := _, type := _, pos := _, after := _, guard := _ }) (v := ?hv4) rfl (by kernel_rfl) (by kernel_rfl) (by kernel_rfl) (fun _ _ _ h => h) (Or.inl ⟨by rfl, ?hy4⟩) (by assumption) ?hr4
  case hy4 => (intro w hSw; go_simp; try with_reducible rfl)
  try simp only [Act.put, zsA, zsZ, zsS]
  refine wpAnyH_take (i := 4) (oi := { dst := some 10, op := _, type := _, pos := _, after := _, guard := _ }) (v := ?hv5) rfl (by kernel_rfl) (by kernel_rfl) (by kernel_rfl) (fun _ _ _ h => h) (Or.inl ⟨by rfl, ?hy5⟩) (by assumption) ?hr5
  case hy5 => (intro w hSw; go_simp; try with_reducible rfl)
  try simp only [Act.put, zsA, zsZ, zsS]
  refine wpAnyH_take (i := 5) (oi := { dst := some 11, op := _, type := _, pos := _, after := _, guard := _ }) (v := ?hv6) rfl (by kernel_rfl) (by kernel_rfl) (by kernel_rfl) (fun _ _ _ h => h) (Or.inl ⟨by rfl, ?hy6⟩) (by assumption) ?hr6
  case hy6 => (intro w hSw; go_simp; try with_reducible rfl)
  try simp only [Act.put, zsA, zsZ, zsS]
  refine wpAnyH_ready (rs := [6]) (by kernel_rfl) (by simp) (AllReadyH.cons (o := _) rfl (fun K hK => ?_) AllReadyH.nil)
  go_simp
  go_at_call 73; (with_reducible refine (HP.out _).mono ?_); rintro x w1 ⟨rfl, hb1⟩; have H1 := zh (Hq.out.below hb1); have K1 := zh (Kq.out.trans (WK.of hb1)); clear hb1
  try go_wp2_with fail
  refine hK.out _ _ (trivial) (fun hHeld => ?_)
  clear hK K
  try simp only [Act.put, zsA, zsZ, zsS]
  refine wpAnyH_ready (rs := [7]) (by kernel_rfl) (by simp) (AllReadyH.cons (o := _) rfl (fun K hK => ?_) AllReadyH.nil)
  go_simp
  go_at_call 193; (with_reducible refine (wstr_any base b l _ _ H1.out HL.out (by have := K1.out.size; omega)).mono ?_); rintro x w2 ⟨rfl, h2, k2⟩; have H2 := zh h2; have K2 := zh (K1.out.trans k2); clear h2 k2
  try go_wp2_with fail
  refine hK.out _ _ (trivial) (fun hHeld => ?_)
  clear hK K
  try simp only [Act.put, zsA, zsZ, zsS]
  refine wpAnyH_done (by kernel_rfl) ?_ _
  go_wp2
  go_end0
  exact ⟨rfl, H2.out, K2.out⟩
theorem cell_heap {W W' : World} {b : Nat} (h : W'.heap[b]? = W.heap[b]?) (j : Nat) : W'.cell? ⟨b, j, none⟩ = W.cell? ⟨b, j, none⟩ := by simp [World.cell?, h]
theorem row_heap {W W' : World} {b : Nat} (h : W'.heap[b]? = W.heap[b]?) {o n : Nat} {cs : List Value} (hr : row? W b o n = some cs) : row? W' b o n = some cs := by
  obtain ⟨h1, h2⟩ := rangeAt_of_row? hr
  have hr : W'.rangeAt b o cs := fun j v hv => by rw [cell_heap h]; exact h1 j v hv
  have := row?_of hr
  rw [h2] at this
  exact this
def AdsK (base b : Nat) (w : World) (v : Value) (l : List AD) : Prop := Ads w v l ∧ (l ≠ [] → ∀ g o n c, v = .slice (some ⟨g, o, none⟩) n c → g ≠ b ∧ (g < base ∨ ∀ cur fz, w.heap[g]? ≠ some (.cells cur 5 fz)))
theorem AdsK.wk {base b : Nat} {w w' : World} {v : Value} {l : List AD} (h : AdsK base b w v l) (k : WK base b w w') : AdsK base b w' v l := by
  obtain ⟨⟨p, cap, h1, h2, h3, h4, h5⟩, h6⟩ := h
  by_cases hn : l = []
  · subst hn
    exact ⟨⟨p, cap, h1, h2, h3, h4, fun hne => absurd rfl hne⟩, fun hne => absurd rfl hne⟩
  · obtain ⟨g, o, e1, e2, e3⟩ := h5 hn
    have h7 := h6 hn g o l.length cap (by rw [h1, e1])
    have hh : w'.heap[g]? = w.heap[g]? := k.block g e2 h7.1 h7.2
    refine ⟨⟨p, cap, h1, h2, h3, h4, fun _ => ⟨g, o, e1, Nat.lt_of_lt_of_le e2 k.size, fun i hi => row_heap hh (e3 i hi)⟩⟩, fun _ g' o' n c e => ?_⟩
    have eg : g' = g := by rw [h1, e1] at e; simp at e; exact e.1.1.symm
    subst eg
    refine ⟨h7.1, ?_⟩
    rcases h7.2 with hl | hr
    · exact Or.inl hl
    · right; rw [hh]; exact hr
theorem AdsK.old {base b : Nat} {w W : World} {v : Value} {l : List AD} (h : Ads w v l) (hk : Below w.heap.size w W) (h1 : w.heap.size ≤ base) (h2 : w.heap.size ≤ b) : AdsK base b W v l := by
  refine ⟨h.below hk, fun hn g o n c e => ?_⟩
  obtain ⟨g', o', cap, e2, _, _, hlt, _⟩ := h.parts hn
  have eg : g' = g := by rw [e2] at e; simp at e; exact e.1.1
  subst eg
  exact ⟨by omega, Or.inl (by omega)⟩
theorem AdsK.lit {base b : Nat} {W : World} {a : AD} (ho : adOk a) (hb : b < W.heap.size) : AdsK base b (W.alloc (.cells (adC a).toArray 24)) (.slice (some ⟨W.heap.size, 0, none⟩) 1 1) [a] := by
  have hm := ObjAt.made W (adC a).toArray 24
  refine ⟨⟨some ⟨W.heap.size, 0, none⟩, 1, rfl, Nat.le_refl _, by decide, fun x hx => by rw [List.mem_singleton] at hx; subst hx; exact ho, fun _ => ⟨W.heap.size, 0, rfl, hm.lt, fun i hi => ?_⟩⟩, fun _ g o n c e => ?_⟩
  · have h0 : i = 0 := by simp at hi; omega
    subst h0
    exact obj_rowk (A := []) (M := adC a) (C := []) (by simpa using hm) rfl (adC_length ho)
  · simp at e
    obtain ⟨⟨rfl, _⟩, _⟩ := e
    refine ⟨by omega, Or.inr fun cur fz h => ?_⟩
    unfold ObjAt at hm
    rw [hm] at h
    simp at h
theorem waddrs_any (base b : Nat) (l : List UInt8) (v : Value) (ls : List AD) (w : World) (h : WB base w b l) (ha : AdsK base b w v ls) (hls : ls.length ≤ 1000000) (hl : l.length ≤ 100000000) (hbase : base ≤ w.heap.size) :
    Calls Tryz.prog 158 #[.pointer (some ⟨b, 0, none⟩), v] w fun x w' => x = .returned (.tuple #[]) ∧ WB base w' b (l ++ listL ls) ∧ WK base b w w' := by
  have HA := zh ha
  have HOK := zh ha.1.ok
  obtain ⟨p, cap, rfl, h1, h2⟩ := ha.1.len
  by_cases h0 : ls.length = 0
  · have e1 : ls = [] := List.eq_nil_of_length_eq_zero h0
    subst e1
    clear ha h1 h2 HOK
    have H := zh h
    clear h hls
    go_enter Tryz.func158, Tryz.ntmps158
    go_wp2_with fail
    go_loop [8] (fun i => i = .int .i64 0) (fun _ => 0)
    case atStart => rfl
    case round =>
      subst hrel
      go_wp2
      go_end0
      exact ⟨rfl, by simpa [listL] using H.out, WK.refl _ _ _⟩
  · have na : ls ≠ [] := fun h => h0 (by rw [h]; rfl)
    obtain ⟨g, o, cap', e, _, _, hgl, Ra⟩ := ha.1.parts na
    simp only [Value.slice.injEq] at e
    obtain ⟨rfl, -, hcc⟩ := e
    subst hcc
    have HROW : Hid (∀ W, AdsK base b W (.slice (some ⟨g, o, none⟩) ls.length cap) ls → ∀ i (hi : i < ls.length), row? W g (o + i * 17) 17 = some (adC ls[i])) := zh fun W hW i hi => by
      obtain ⟨g2, o2, cap2, e2, _, _, _, R2⟩ := hW.1.parts na
      simp only [Value.slice.injEq, Option.some.injEq, Addr.mk.injEq] at e2
      obtain ⟨⟨rfl, rfl, _⟩, _, _⟩ := e2
      exact R2 i hi
    obtain ⟨n, hn⟩ : ∃ n, n = ls.length := ⟨_, rfl⟩
    have HN := zh hn
    rw [← hn] at h0 h1 hls HA ⊢
    have HROW : Hid (∀ W, AdsK base b W (.slice (some ⟨g, o, none⟩) n cap) ls → ∀ i (hi : i < ls.length), row? W g (o + i * 17) 17 = some (adC ls[i])) := zh (by rw [hn]; exact HROW.out)
    have H := zh h
    clear ha h h1 h2 na hgl Ra hn
    go_enter Tryz.func158, Tryz.ntmps158
    go_wp2_with fail
    go_loopw [8] (fun i wr => ∃ k : Nat, k ≤ n ∧ i = .int .i64 k ∧ Hid (WB base wr b (l ++ listL (ls.take k))) ∧ Hid (WK base b w wr)) (fun i _ => n - (intOf i).toNat)
    case atStart => exact ⟨0, by omega, rfl, zh (by simpa [listL] using H.out), zh (WK.refl _ _ _)⟩
    case round =>
      obtain ⟨k, hk, rfl, HWB, HWK⟩ := hrel
      by_cases hlt : k < n
      · have g1 : k < ls.length := by rw [← HN.out]; exact hlt
        have r1 := HROW.out _ (HA.out.wk HWK.out) k g1
        have hoa := HOK.out _ (List.getElem_mem g1)
        have HB : Hid (∀ W, Calls Tryz.prog 140 #[.agg (adC ls[k]).toArray] W fun x w' => x = .returned (.string (Str (adB ls[k]))) ∧ Below W.heap.size W w') := zh fun W => bytes_any ls[k].1 ls[k].2 hoa W
        have HT := zh (listL_succ g1)
        have hd : decide ((k : Int) < (n : Int)) = true := by simp; omega
        have hk1 : (k : Int) < (n : Int) := by omega
        have hw1 : IntKind.i64.wrap ((k : Int) + 1) = (k : Int) + 1 := by simp only [IntKind.wrap_i64]; omega
        have hfok : fok (adC ls[k]).toArray 17 = true := fok_addr _ _ hoa
        have hfm := free_made wr zz17 24 17 (by simp)
        have HM : Hid (ObjAt (aggW (wr.alloc (.cells zz17 24)) wr.heap.size (adC ls[k])) wr.heap.size (adC ls[k]).toArray 24 ∧ Below wr.heap.size wr (aggW (wr.alloc (.cells zz17 24)) wr.heap.size (adC ls[k]))) := zh ⟨aggW_obj (L := [.bool false, .int .u8 0, .int .u8 0, .int .u8 0, .int .u8 0, .int .u8 0, .int .u8 0, .int .u8 0, .int .u8 0, .int .u8 0, .int .u8 0, .int .u8 0, .int .u8 0, .int .u8 0, .int .u8 0, .int .u8 0, .int .u8 0]) (ObjAt.made wr _ _) (by rw [adC_length hoa]; rfl) (addrC_one _ _), aggW_below ((Below.refl _ _).alloc (Nat.le_refl _) _) (Nat.le_refl _) _⟩
        have HLA := zh (adC_length hoa)
        have HL : Hid ((l ++ listL (ls.take k)).length + (adB ls[k]).length ≤ 1000000000) := zh (by
          have h3 := listL_le (l := ls.take k) (fun a ha => HOK.out a (List.mem_of_mem_take ha))
          have h4 := adB_le hoa
          rw [List.length_take] at h3
          rw [List.length_append]
          omega)
        have HNE := zh (show wr.heap.size ≠ b by have := HWB.out.lt; omega)
        generalize adC ls[k] = A at *
        generalize adB ls[k] = B at *
        clear hoa g1
        go_upto_region 3 with (fail)
        generalize aggW (wr.alloc _) wr.heap.size _ = W1 at HM ⊢
        have H1 := zh (HWB.out.below HM.out.2)
        have K1 := zh (HWK.out.trans (WK.of HM.out.2))
        have HM := zh HM.out.1
        generalize wr.heap.size = m at HM HNE ⊢
        have HRow : Hid (∀ W, ObjAt W m A.toArray 24 → row? W m 0 17 = some A) := zh fun W hW => obj_rowk (A := []) (M := A) (C := []) (by simpa using hW) rfl HLA.out
        clear hfm hfok r1
        refine wp_region_held_drew (S := fun W => row? W m 0 17 = some A) (by kernel_rfl) (HRow.out _ (show ObjAt W1.drew m _ 24 from HM.out)) (fun hHeld => ?_)
        have Hq := zh (show WB base W1.drew b _ from H1.out)
        have Kq := zh (show WK base b w W1.drew from K1.out.trans ⟨rfl, rfl, rfl, Nat.le_refl _, fun _ _ _ _ => rfl⟩)
        have Mq := zh (show ObjAt W1.drew m _ 24 from HM.out)
        generalize World.drew _ = Wq at Hq Kq Mq hHeld ⊢
        refine wpAnyH_take (i := 0) (oi := { dst := some 12, op := _, type := _, pos := _, after := _, guard := _ }) (v := ?hv41) rfl (by kernel_rfl) (by kernel_rfl) (by kernel_rfl) (fun _ _ _ h => h) (Or.inl ⟨by rfl, ?hy41⟩) (by assumption) ?hr41
        case hy41 => (intro w hSw; go_simp; try with_reducible rfl)
        try simp only [Act.put, zsA, zsZ, zsS]
        refine wpAnyH_take (i := 1) (oi := { dst := some 13, op := _, type := _, pos := _, after := _, guard := _ }) (v := ?hv42) rfl (by kernel_rfl) (by kernel_rfl) (by kernel_rfl) (fun _ _ _ h => h) (Or.inl ⟨by rfl, ?hy42⟩) (by assumption) ?hr42
        case hy42 => (intro w hSw; go_simp; try with_reducible rfl)
        try simp only [Act.put, zsA, zsZ, zsS]
        refine wpAnyH_take (i := 2) (oi := { dst := some 14, op := _, type := _, pos := _, after := _, guard := _ }) (v := ?hv43) rfl (by kernel_rfl) (by kernel_rfl) (by kernel_rfl) (fun _ _ _ h => h) (Or.inl ⟨by rfl, ?hy43⟩) (by assumption) ?hr43
        case hy43 => (intro w hSw; go_simp; try with_reducible rfl)
        try simp only [Act.put, zsA, zsZ, zsS]
        refine wpAnyH_take (i := 3) (oi := { dst := some 15, op := _, type := _, pos := _, after := _, guard := _ }) (v := ?hv44) rfl (by kernel_rfl) (by kernel_rfl) (by kernel_rfl) (fun _ _ _ h => h) (Or.inl ⟨by rfl, ?hy44⟩) (by assumption) ?hr44
        case hy44 => (intro w hSw; go_simp; try with_reducible rfl)
        try simp only [Act.put, zsA, zsZ, zsS]
        refine wpAnyH_ready (rs := [4]) (by kernel_rfl) (by simp) (AllReadyH.cons (o := _) rfl (fun K hK => ?_) AllReadyH.nil)
        go_simp
        go_at_call 140; (with_reducible refine (HB.out _).mono ?_); rintro x w1 ⟨rfl, hb1⟩; have H2 := zh (Hq.out.below hb1); have K2 := zh (Kq.out.trans (WK.of hb1)); have M2 := zh (Mq.out.below hb1 Mq.out.lt); clear hb1
        try go_wp2_with fail
        refine hK.out _ _ (HRow.out _ M2.out) (fun hHeld => ?_)
        clear hK K
        try simp only [Act.put, zsA, zsZ, zsS]
        refine wpAnyH_ready (rs := [5]) (by kernel_rfl) (by simp) (AllReadyH.cons (o := _) rfl (fun K hK => ?_) AllReadyH.nil)
        go_simp
        go_at_call 193; (with_reducible refine (wstr_any base b _ _ _ H2.out HL.out (by have := K2.out.size; omega)).mono ?_); rintro x w2 ⟨rfl, h2, k2⟩; have H3 := zh h2; have K3 := zh (K2.out.trans k2); have M3 := zh (ObjAt.wk M2.out k2 HNE.out (by decide)); clear h2 k2
        try go_wp2_with fail
        refine hK.out _ _ (HRow.out _ M3.out) (fun hHeld => ?_)
        clear hK K
        try simp only [Act.put, zsA, zsZ, zsS]
        refine wpAnyH_done (by kernel_rfl) ?_ _
        go_wp2
        go_roundw
        case rel => exact ⟨k + 1, by omega, by go_num, zh (by rw [HT.out, ← List.append_assoc]; exact H3.out), K3⟩
        case measure => simp [intOf]; omega
      · have hd : ¬ (k : Int) < (n : Int) := by omega
        have HV := zh (show ls.take k = ls from List.take_of_length_le (by rw [← HN.out]; omega))
        go_wp2
        go_end0
        exact ⟨rfl, by have := HWB.out; rw [HV.out] at this; exact this, HWK.out⟩
end Go.Proofs.YtlbdehegknehiaaGreat

