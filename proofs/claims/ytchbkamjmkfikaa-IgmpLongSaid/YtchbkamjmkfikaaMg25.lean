/-
  Texts joined: TlD, IgU, IgV.
-/
import Derived.Test.YtchbkamjmkfikaaTqB
import Derived.Test.YtchbkamjmkfikaaMg00
import Derived.Test.YtchbkamjmkfikaaMg01
import Derived.Test.YtchbkamjmkfikaaChecked
import Derived.Lib.FrozenHead
import Derived.Deep.RegionHeld3
import Derived.Deep.Cut
import Derived.BigQuiet
import Derived.LoopTactic
import Derived.Deep.QuietTactic
import Derived.Test.YtchbkamjmkfikaaMg05
/-
  Talks made later, and what a reader of talks tells.
-/
namespace Go.Proofs.Ytchbkamjmkfikaa
open Go.RowKit
set_option linter.unusedVariables false
set_option linter.unusedSimpArgs false
/-- What a reader tells. -/
def ReadQ (w : World) (s : List UInt8) (x : Ending) (w' : World) : Prop := ∃ us ur, x = .returned (.tuple #[.agg (tkC (readT s).1 us ur).toArray, .int .i64 (readT s).2]) ∧ Below w.heap.size w w' ∧ adOk (readT s).1.g ∧ Ads w' us (readT s).1.src ∧ Rcs w' ur (readT s).1.rcs
theorem ReadP.q {w w' : World} {s : List UInt8} {x : Ending} (h : ReadP w s x w') : ReadQ w s x w' := by
  obtain ⟨us, ur, h1, h2, h3, h4, h5⟩ := h
  exact ⟨us, ur, h1, h2, h3, h4.1, h5.rcs⟩
theorem Rcs.ok {w : World} {v : Value} {l : List RC} (h : Rcs w v l) : ∀ r ∈ l, adOk r.g ∧ ∀ a ∈ r.src, adOk a := by
  intro r hr
  obtain ⟨i, hi, rfl⟩ := List.mem_iff_getElem.1 hr
  obtain ⟨b, o, cap, _, _, _, h3⟩ := h.parts (fun e => by rw [e] at hi; exact absurd hi (by simp))
  obtain ⟨h4, _, u, _, h6⟩ := h3 i hi
  exact ⟨h4, h6.ok⟩
theorem Tks.ok {w : World} {cs : List Value} {t : TK} (h : Tks w cs t) : t.ok := by
  obtain ⟨h1, us, ur, h2, h3, h4⟩ := h
  exact ⟨h1, h3.ok, h4.ok⟩
/-- A talk in a block of its own, made later. -/
structure TM (w W : World) (m : Nat) (t : TK) (us ur : Value) : Prop where
  tk : TkAt W m t us ur
  src : Ads W us t.src
  rcs : Rcs W ur t.rcs
  blw : Below w.heap.size w W
  lt : w.heap.size ≤ m
theorem TM.below {w W W' : World} {m : Nat} {t : TK} {us ur : Value} (h : TM w W m t us ur) (hb : Below W.heap.size W W') : TM w W' m t us ur :=
  ⟨h.tk.below hb, h.src.below hb, h.rcs.below hb, bstep h.blw hb, h.lt⟩
theorem TM.tks {w W : World} {m : Nat} {t : TK} {us ur : Value} (h : TM w W m t us ur) : Tks W (tkC t us ur) t := ⟨h.tk.2, us, ur, rfl, h.src, h.rcs⟩
theorem TM.ok {w W : World} {m : Nat} {t : TK} {us ur : Value} (h : TM w W m t us ur) : t.ok := h.tks.ok
theorem TM.fok {W : World} {t : TK} {us ur : Value} (ho : adOk t.g) (hs : Ads W us t.src) (hr : Rcs W ur t.rcs) : fok (tkC t us ur).toArray 26 = true := fok_tk ho hs.one hr.one
/-- A new block, and the talk stored there. -/
theorem TM.made {w W : World} {t : TK} {us ur : Value} (hb : Below w.heap.size w W) (ho : adOk t.g) (hs : Ads W us t.src) (hr : Rcs W ur t.rcs) : TM w (aggW (W.alloc (.cells #[.bool false, .int .i64 0, .int .i64 0, .int .i64 0, .bool false, .int .u8 0, .int .u8 0, .int .u8 0, .int .u8 0, .int .u8 0, .int .u8 0, .int .u8 0, .int .u8 0, .int .u8 0, .int .u8 0, .int .u8 0, .int .u8 0, .int .u8 0, .int .u8 0, .int .u8 0, .int .u8 0, .bool false, .int .i64 0, .int .i64 0, .slice none 0 0, .slice none 0 0] 29)) W.heap.size (tkC t us ur)) W.heap.size t us ur := by
  have hk : Below W.heap.size W (aggW (W.alloc (.cells #[.bool false, .int .i64 0, .int .i64 0, .int .i64 0, .bool false, .int .u8 0, .int .u8 0, .int .u8 0, .int .u8 0, .int .u8 0, .int .u8 0, .int .u8 0, .int .u8 0, .int .u8 0, .int .u8 0, .int .u8 0, .int .u8 0, .int .u8 0, .int .u8 0, .int .u8 0, .int .u8 0, .bool false, .int .i64 0, .int .i64 0, .slice none 0 0, .slice none 0 0] 29)) W.heap.size (tkC t us ur)) := aggW_below ((Below.refl _ _).alloc (Nat.le_refl _) _) (Nat.le_refl _) _
  have hm := ObjAt.made W #[.bool false, .int .i64 0, .int .i64 0, .int .i64 0, .bool false, .int .u8 0, .int .u8 0, .int .u8 0, .int .u8 0, .int .u8 0, .int .u8 0, .int .u8 0, .int .u8 0, .int .u8 0, .int .u8 0, .int .u8 0, .int .u8 0, .int .u8 0, .int .u8 0, .int .u8 0, .int .u8 0, .bool false, .int .i64 0, .int .i64 0, .slice none 0 0, .slice none 0 0] 29
  exact ⟨⟨aggW_obj (L := (#[.bool false, .int .i64 0, .int .i64 0, .int .i64 0, .bool false, .int .u8 0, .int .u8 0, .int .u8 0, .int .u8 0, .int .u8 0, .int .u8 0, .int .u8 0, .int .u8 0, .int .u8 0, .int .u8 0, .int .u8 0, .int .u8 0, .int .u8 0, .int .u8 0, .int .u8 0, .int .u8 0, .bool false, .int .i64 0, .int .i64 0, .slice none 0 0, .slice none 0 0] : Array Value).toList) (by simpa using hm) (by rw [tkC_length ho]; rfl) (tkC_one hs.one hr.one), ho⟩, hs.below hk, hr.below hk, bstep hb hk, hb.size⟩
theorem hfm26 (W : World) : free? (W.alloc (.cells #[.bool false, .int .i64 0, .int .i64 0, .int .i64 0, .bool false, .int .u8 0, .int .u8 0, .int .u8 0, .int .u8 0, .int .u8 0, .int .u8 0, .int .u8 0, .int .u8 0, .int .u8 0, .int .u8 0, .int .u8 0, .int .u8 0, .int .u8 0, .int .u8 0, .int .u8 0, .int .u8 0, .bool false, .int .i64 0, .int .i64 0, .slice none 0 0, .slice none 0 0] 29)) W.heap.size 0 26 = true := free_made W _ _ 26 (by simp)
end Go.Proofs.Ytchbkamjmkfikaa

/-
  A writer of igmp in memory (a strings.Builder within a struct): what it holds, what its calls leave alone; copyCheck, WriteString, String.
-/
namespace Go.Proofs.Ytchbkamjmkfikaa
open Go.RowKit
set_option linter.unusedVariables false
set_option linter.unusedSimpArgs false

/-- Bytes that a writer in block b holds; its row, if there is one, lies from base on. -/
def WB (base : Nat) (W : World) (b : Nat) (l : List UInt8) : Prop :=
  ∃ p v, (p = .pointer none ∨ p = .pointer (some ⟨b, 0, none⟩)) ∧ W.heap[b]? = some (.cells #[p, v] 70 (0, 0)) ∧ W.ownsRowF base 5 1 v l.length (B8 l)
/-- What a writer's calls leave alone. -/
structure WK (base b : Nat) (w w' : World) : Prop where
  os : w'.os = w.os
  tape : w'.tape = w.tape
  output : w'.output = w.output
  size : w.heap.size ≤ w'.heap.size
  block : ∀ i, i < w.heap.size → i ≠ b → (i < base ∨ ∀ cur fz, w.heap[i]? ≠ some (.cells cur 5 fz)) → w'.heap[i]? = w.heap[i]?
theorem WK.refl (base b : Nat) (w : World) : WK base b w w := ⟨rfl, rfl, rfl, Nat.le_refl _, fun _ _ _ _ => rfl⟩
theorem WK.trans {base b : Nat} {w w1 w2 : World} (h : WK base b w w1) (k : WK base b w1 w2) : WK base b w w2 :=
  ⟨k.os.trans h.os, k.tape.trans h.tape, k.output.trans h.output, Nat.le_trans h.size k.size, fun i hi hb ho => by
    have e := h.block i hi hb ho
    refine (k.block i (Nat.lt_of_lt_of_le hi h.size) hb ?_).trans e
    rcases ho with ho | ho
    · exact Or.inl ho
    · right; intro cur fz; rw [e]; exact ho cur fz⟩
theorem WK.of {base b : Nat} {w w' : World} (k : Below w.heap.size w w') : WK base b w w' := ⟨k.os, k.tape, k.output, k.size, fun i hi _ _ => k.block i hi⟩
theorem WK.set (base b j : Nat) (w : World) (v : Value) : WK base b w (w.setCell ⟨b, j, none⟩ v) :=
  ⟨rfl, rfl, rfl, by simp [World.setCell], fun i _ hb _ => Below.heap_setCell _ _ _ _ (fun e => hb (by simp [e]))⟩
theorem WK.grown {base b n : Nat} {w w' : World} {v : Value} {xs : List Value} (hown : w.ownsRowF base 5 1 v n xs) (hg : w.grownBy w' v.ownBlock) : WK base b w w' :=
  ⟨hg.os, hg.tape, hg.output, hg.size, fun i hi hb ho => hg.block i hi (fun e => by
    rcases hown.2 with ⟨rfl, _⟩ | ⟨g, cap, cur, fz, rfl, hbg, hgg, _⟩
    · simp [Value.ownBlock] at e
    · simp only [Value.ownBlock, Option.some.injEq] at e
      subst e
      rcases ho with ho | ho
      · omega
      · exact ho cur fz hgg)⟩
theorem WK.blw {base b N : Nat} {w w' : World} (h : WK base b w w') (h1 : N ≤ base) (h2 : N ≤ b) (h3 : N ≤ w.heap.size) : Below N w w' :=
  ⟨h.os, h.tape, h.output, h.size, fun i hi => h.block i (by omega) (by omega) (Or.inl (by omega))⟩
theorem ObjAt.wk {base b m : Nat} {w w' : World} {L : Array Value} {T : TypeId} (h : ObjAt w m L T) (hk : WK base b w w') (hm : m ≠ b) (hT : T ≠ 5) : ObjAt w' m L T := by
  have hlt := h.lt
  unfold ObjAt at h ⊢
  rw [hk.block m hlt hm (Or.inr fun cur fz e => by rw [h] at e; simp only [Option.some.injEq, Obj.cells.injEq] at e; exact hT e.2.1)]
  exact h
theorem WB.lt {base b : Nat} {w : World} {l : List UInt8} (h : WB base w b l) : b < w.heap.size := by
  obtain ⟨p, v, _, hb, _⟩ := h
  exact (Array.getElem?_eq_some_iff.1 hb).1
theorem ownF_kept {w w' : World} {base n : Nat} {v : Value} {xs : List Value} (h : w.ownsRowF base 5 1 v n xs) (hk : ∀ g, v.ownBlock = some g → w'.heap[g]? = w.heap[g]?) : w'.ownsRowF base 5 1 v n xs := by
  refine ⟨h.1, ?_⟩
  rcases h.2 with hn | ⟨g, cap, cur, fz, rfl, hbg, hgg, rest⟩
  · exact .inl hn
  · exact .inr ⟨g, cap, cur, fz, rfl, hbg, (hk g rfl).trans hgg, rest⟩
theorem WB.below {base b : Nat} {w w' : World} {l : List UInt8} (h : WB base w b l) (hb : Below w.heap.size w w') : WB base w' b l := by
  have hlt := h.lt
  obtain ⟨p, v, h1, h2, h3⟩ := h
  exact ⟨p, v, h1, (hb.block b hlt).trans h2, ownF_kept h3 fun g hg => hb.block g (h3.lt g hg).2⟩
/-- Another writer's calls leave it alone. -/
theorem WB.far {base b b2 : Nat} {w w' : World} {l m : List UInt8} {base2 : Nat} (h : WB base w b l) (h2 : WB base2 w b2 m) (hne : b ≠ b2) (hk : WK w.heap.size b2 w w') : WB base w' b l := by
  have hlt := h.lt
  obtain ⟨p, v, g1, g2, g3⟩ := h
  obtain ⟨p2, v2, _, k2, _⟩ := h2
  refine ⟨p, v, g1, (hk.block b hlt hne (Or.inl hlt)).trans g2, ownF_kept g3 fun g hg => ?_⟩
  have hgl := (g3.lt g hg).2
  refine hk.block g hgl (fun e => ?_) (Or.inl hgl)
  subst e
  rcases g3.2 with ⟨rfl, _⟩ | ⟨g', cap, cur, fz, rfl, _, hgg, _⟩
  · simp [Value.ownBlock] at hg
  · simp only [Value.ownBlock, Option.some.injEq] at hg
    subst hg
    rw [hgg] at k2
    simp at k2
/-- One that holds nothing yet may take any base. -/
theorem WB.base0 {base b : Nat} {w : World} (h : WB base w b []) (hv : ∀ p v, w.heap[b]? = some (.cells #[p, v] 70 (0, 0)) → v = .slice none 0 0) (base2 : Nat) : WB base2 w b [] := by
  obtain ⟨p, v, h1, h2, h3⟩ := h
  obtain rfl := hv p v h2
  exact ⟨p, _, h1, h2, World.ownsRowF_nil _ _ _ _⟩
theorem WB.new {b : Nat} {w : World} (h : ObjAt w b #[.pointer none, .slice none 0 0] 70) (base : Nat) : WB base w b [] := ⟨_, _, Or.inl rfl, h, World.ownsRowF_nil _ _ _ _⟩

set_option maxRecDepth 100000 in
set_option maxHeartbeats 1000000 in
theorem copy_used (b : Nat) (w : World) (h0 : w.cell? ⟨b, 0, none⟩ = some (.pointer (some ⟨b, 0, none⟩))) :
    Calls Try.prog 95 #[.pointer (some ⟨b, 0, none⟩)] w fun e w' => e = .returned (.tuple #[]) ∧ w' = w := by
  obtain ⟨j, hj⟩ := info_of Try.underlying68
  go_enter Try.func95, Try.ntmps95
  go_wp2
  rw [Lib.run_neq_ptr_same w _ Try.underlying65 hj]
  go_wp2
  go_end0
  exact ⟨rfl, rfl⟩
set_option maxRecDepth 100000 in
set_option maxHeartbeats 1000000 in
theorem copy_fresh (b : Nat) (w : World) (h0 : w.cell? ⟨b, 0, none⟩ = some (.pointer none)) (hsh : w.shape? b = some (70, 2)) (hfz : w.frozen? ⟨b, 0, none⟩ = false) :
    Calls Try.prog 95 #[.pointer (some ⟨b, 0, none⟩)] w fun e w' => e = .returned (.tuple #[]) ∧ w' = w.setCell ⟨b, 0, none⟩ (.pointer (some ⟨b, 0, none⟩)) := by
  have hs0 : (Try.prog.info? 68).map (·.size) = some 2 := by kernel_rfl
  obtain ⟨j, hj, hjs⟩ := Option.map_eq_some_iff.1 hs0
  go_enter Try.func95, Try.ntmps95
  go_wp2
  rw [Lib.run_to_unsafe w ⟨b, 0, none⟩ Try.underlying65 Try.underlying123 hj (by rw [hjs]; decide) hsh (Nat.zero_lt_succ 1)]
  simp only [Result.andThen]
  rw [Oper.upon_value]
  go_wp2
  rw [run_callFunc_extern Try.func102 (by kernel_rfl) (by kernel_rfl) (by kernel_rfl) (e := Extern.AbiNoEscape.same) (by kernel_rfl)]
  rw [Lib.run_noEscape]
  simp only [Result.andThen]
  rw [Oper.upon_value]
  go_wp2
  rw [Lib.run_from_unsafe w ⟨b, 0, none⟩ Try.underlying123 Try.underlying65 hj hsh (by kernel_rfl)]
  simp only [Result.andThen]
  rw [Oper.upon_value]
  go_wp2
  go_end0
  exact ⟨rfl, rfl⟩
end Go.Proofs.Ytchbkamjmkfikaa

/-
  The contracts of a writer of igmp: copyCheck, WriteString, String.
-/
namespace Go.Proofs.Ytchbkamjmkfikaa
open Go.RowKit
set_option linter.unusedVariables false
set_option linter.unusedSimpArgs false

theorem wcopy_any (base b : Nat) (l : List UInt8) (w : World) (h : WB base w b l) : Calls Try.prog 95 #[.pointer (some ⟨b, 0, none⟩)] w fun x w' => x = .returned (.tuple #[]) ∧ (∃ v, w'.heap[b]? = some (.cells #[.pointer (some ⟨b, 0, none⟩), v] 70 (0, 0)) ∧ w'.ownsRowF base 5 1 v l.length (B8 l)) ∧ WK base b w w' := by
  obtain ⟨p, v, hp, hb, hown⟩ := h
  have c0 : w.cell? ⟨b, 0, none⟩ = some p := by simp [World.cell?, hb]
  rcases hp with rfl | rfl
  · refine (copy_fresh b w c0 (by simp [World.shape?, hb]) (by simp [World.frozen?, hb])).mono ?_
    rintro x w' ⟨rfl, rfl⟩
    have hne := Lib.ownBlock_neF hown hb (by decide)
    refine ⟨rfl, ⟨v, by simp [World.setCell, Array.getElem?_modify, hb], ownF_kept hown fun g hg => Below.heap_setCell _ _ _ _ (fun e => hne (by rw [hg]; exact congrArg some e))⟩, WK.set _ _ _ _ _⟩
  · refine (copy_used b w c0).mono ?_
    rintro x w' ⟨rfl, rfl⟩
    exact ⟨rfl, ⟨v, hb, hown⟩, WK.refl _ _ _⟩
theorem strCells_B8 (s : List UInt8) : Lib.strCells (Str s) = B8 s := rfl
theorem info_u8w : (Try.prog.info? 5).map (fun i => (i.zero, i.size, i.bytes)) = some (some (.int .u8 0), 1, 1) := by kernel_rfl
set_option maxRecDepth 100000 in
set_option maxHeartbeats 2000000 in
theorem wstr_any (base b : Nat) (l s : List UInt8) (w : World) (h : WB base w b l) (hl : l.length + s.length ≤ 1000000000) (hbase : base ≤ w.heap.size) :
    Calls Try.prog 75 #[.pointer (some ⟨b, 0, none⟩), .string (Str s)] w fun x w' => x = .returned (.tuple #[.int .i64 s.length, .nilIface]) ∧ WB base w' b (l ++ s) ∧ WK base b w w' := by
  obtain ⟨i0, hi, hz0, hz1, hz2⟩ := info_parts info_u8w
  have HC := Lib.hid (wcopy_any base b l w h)
  have hss : (Str s).size = s.length := Str_size s
  clear h
  go_enter Try.func75, Try.ntmps75
  go_wp2_with (go_at_call 95; (with_reducible refine (HC.out).mono ?_))
  rintro x w1 ⟨rfl, ⟨v, hbk, hown⟩, hk1⟩
  have HK1 := Lib.hid hk1
  have hz := hk1.size
  have c0 : w1.cell? ⟨b, 0, none⟩ = some (.pointer (some ⟨b, 0, none⟩)) := by rw [Lib.cell_of_heap hbk]; rfl
  have c1 : w1.cell? ⟨b, 1, none⟩ = some v := by rw [Lib.cell_of_heap hbk]; rfl
  clear hk1
  go_wp2_with (at_builtin; refine Lib.wpList_append_own_stringF _ rfl _ _ 66 9 rfl base 5 i0 Try.underlying66 Try.underlying9 hi hz0 hz1 hz2 _ _ _ rfl hown (Str s) rfl ?c3 ?c4 ?c5 ?_)
  case c3 => rw [hss]; unfold maxLen; omega
  case c4 => rw [hss]; omega
  case c5 => omega
  intro v' w2 hown' hgrow _
  have hlt : b < w1.heap.size := (Array.getElem?_eq_some_iff.1 hbk).1
  have hne := Lib.ownBlock_neF hown hbk (by decide)
  have hb2 : w2.heap[b]? = some (.cells #[.pointer (some ⟨b, 0, none⟩), v] 70 (0, 0)) := by
    rw [hgrow.block b hlt (fun e => hne e.symm)]
    exact hbk
  have d0 : w2.cell? ⟨b, 0, none⟩ = some (.pointer (some ⟨b, 0, none⟩)) := by rw [Lib.cell_of_heap hb2]; rfl
  have d1 : w2.cell? ⟨b, 1, none⟩ = some v := by rw [Lib.cell_of_heap hb2]; rfl
  have f1 : w2.frozen? ⟨b, 1, none⟩ = false := Lib.frozen_of_heap hb2 1
  obtain ⟨ao, n', cap, hv'⟩ : ∃ ao n' cap, v' = .slice ao n' cap := by
    rcases hown'.2 with ⟨hv, _⟩ | ⟨g, cap, cur, fz, hv, _⟩
    · exact ⟨_, _, _, hv⟩
    · exact ⟨_, _, _, hv⟩
  have HW : Hid (WB base (w2.setCell ⟨b, 1, none⟩ (.slice ao n' cap)) b (l ++ s) ∧ WK base b w (w2.setCell ⟨b, 1, none⟩ (.slice ao n' cap))) := Lib.hid (by
    rw [← hv']
    have hne2 := Lib.ownBlock_neF hown' hb2 (by decide)
    refine ⟨⟨_, v', Or.inr rfl, by simp [World.setCell, Array.getElem?_modify, hb2], ?_⟩, (HK1.out.trans (WK.grown hown hgrow)).trans (WK.set _ _ _ _ _)⟩
    have h4 : w2.ownsRowF base 5 1 v' (l ++ s).length (B8 (l ++ s)) := by
      rw [List.length_append, B8_append, ← strCells_B8, ← hss]; exact hown'
    exact ownF_kept h4 fun g hg => Below.heap_setCell _ _ _ _ (fun e => hne2 (by rw [hg]; exact congrArg some e)))
  subst hv'
  clear hown hown' hgrow hne hbk hb2
  go_wp2
  go_ret2
  exact ⟨by rw [← hss]; rfl, HW.out.1, HW.out.2⟩
theorem frz_kept {w : World} {g : Nat} {i n : Nat} (h : i ≠ g) : (w.freeze ⟨g, 0, none⟩ n).heap[i]? = w.heap[i]? := by
  unfold World.freeze
  split
  · rfl
  · simp only [Array.getElem?_modify]
    rw [if_neg (fun e => h e.symm)]
/-- What String leaves: the bytes that are held are frozen. -/
theorem WB.froze {base b g cap : Nat} {l : List UInt8} {w : World} {p : Value} (hp : p = .pointer none ∨ p = .pointer (some ⟨b, 0, none⟩)) (hb : w.heap[b]? = some (.cells #[p, .slice (some ⟨g, 0, none⟩) l.length cap] 70 (0, 0))) (hown : w.ownsRowF base 5 1 (.slice (some ⟨g, 0, none⟩) l.length cap) l.length (B8 l)) :
    WB base (w.freeze ⟨g, 0, none⟩ l.length) b l := by
  have hne := Lib.ownBlock_neF hown hb (by decide)
  have hgb : b ≠ g := fun e => hne (by simp [Value.ownBlock, e])
  refine ⟨p, _, hp, (frz_kept hgb).trans hb, ⟨hown.1, ?_⟩⟩
  rcases hown.2 with ⟨hv, _⟩ | ⟨g', cap', cur, fz, hv, hbg, hg, hfz, rest⟩
  · cases hv
  · injection hv with ha _ hcap
    injection ha with ha
    injection ha with hgg _ _
    subst hgg
    subst hcap
    unfold World.freeze
    split
    · exact .inr ⟨g, _, cur, fz, rfl, hbg, hg, hfz, rest⟩
    · obtain ⟨lo, hi⟩ := fz
      refine .inr ⟨g, _, cur, (if lo == hi then (0, 0 + l.length) else (min lo 0, max hi (0 + l.length))), rfl, hbg, ?_, ?_, rest⟩
      · simp [Array.getElem?_modify, hg]
      · simp only at hfz
        split <;> simp <;> omega
set_option maxRecDepth 100000 in
set_option maxHeartbeats 2000000 in
theorem wtext_core (base b g cap : Nat) (l : List UInt8) (p : Value) (w : World) (hbk : w.heap[b]? = some (.cells #[p, .slice (some ⟨g, 0, none⟩) l.length cap] 70 (0, 0))) (hown : w.ownsRowF base 5 1 (.slice (some ⟨g, 0, none⟩) l.length cap) l.length (B8 l)) (h0 : l ≠ []) (hl : l.length ≤ 1000000000) :
    Calls Try.prog 42 #[.pointer (some ⟨b, 0, none⟩)] w fun x w' => x = .returned (.string (Str l)) ∧ w' = w.drew.freeze ⟨g, 0, none⟩ l.length := by
  have hl0 : l.length ≠ 0 := by simpa using h0
  obtain ⟨cur, fz, hbg, hg, hfz, hnc, hcm, hcs, htake⟩ : ∃ cur fz, base ≤ g ∧ w.heap[g]? = some (.cells cur 5 fz) ∧ fz.2 ≤ l.length * 1 ∧ l.length ≤ cap ∧ cap ≤ maxLen ∧ cur.size = cap * 1 ∧ cur.toList.take (l.length * 1) = B8 l := by
    rcases hown.2 with ⟨_, hz⟩ | ⟨g', cap', cur, fz, hv, r⟩
    · exact absurd hz hl0
    · injection hv with ha _ hcap
      injection ha with ha
      injection ha with hgg _ _
      subst hgg
      subst hcap
      exact ⟨cur, fz, r⟩
  have c1 : w.drew.cell? ⟨b, 1, none⟩ = some (.slice (some ⟨g, 0, none⟩) l.length cap) := by
    have : w.drew.heap[b]? = some (.cells #[p, .slice (some ⟨g, 0, none⟩) l.length cap] 70 (0, 0)) := hbk
    rw [Lib.cell_of_heap this]; rfl
  have hSD : (Builtin.unsafeSliceData_ #[66] 111 #[.slice (some ⟨g, 0, none⟩) l.length cap]).run Try.prog w.drew = .ok (.pointer (some ⟨g, 0, none⟩)) w.drew :=
    Lib.run_unsafeSliceData_row _ _ _ _ _ _ (by omega)
  have hc8 : Try.prog.cellsOf 5 = 1 := by kernel_rfl
  have hUS : (Builtin.unsafeString_ #[111, 3] 9 #[.pointer (some ⟨g, 0, none⟩), .int .i64 l.length]).run Try.prog w.drew = .ok (.string (Str l)) (w.drew.freeze ⟨g, 0, none⟩ l.length) := by
    refine Lib.run_unsafeString_row w.drew 111 3 9 5 Try.underlying111 hc8 g cur.size (by have hg' : w.drew.heap[g]? = some (.cells cur 5 fz) := hg; simp [World.shape?, hg']) l h0 (by omega) (by omega) ?_
    intro j x hx
    exact hown.cells (g := g) rfl j (.int .u8 x.toNat) (by simp [B8_get, hx])
  clear hown hbk hg htake
  go_enter Try.func42, Try.ntmps42
  go_wp2
  go_region
  all_goals (go_wp2; go_ret; exact ⟨rfl, rfl⟩)
/-- A writer whose row lies ahead of top. -/
def WT (top : Nat) (W : World) (b : Nat) (l : List UInt8) : Prop :=
  ∃ p v, (p = .pointer none ∨ p = .pointer (some ⟨b, 0, none⟩)) ∧ W.heap[b]? = some (.cells #[p, v] 70 (0, 0)) ∧ W.ownsRowF 0 5 1 v l.length (B8 l) ∧ ∀ g, v.ownBlock = some g → g < top
theorem WB.top {base b : Nat} {w : World} {l : List UInt8} (h : WB base w b l) : WT w.heap.size w b l := by
  obtain ⟨p, v, h1, h2, h3⟩ := h
  refine ⟨p, v, h1, h2, ⟨h3.1, ?_⟩, fun g hg => (h3.lt g hg).2⟩
  rcases h3.2 with hn | ⟨g, cap, cur, fz, hv, hbg, rest⟩
  · exact .inl hn
  · exact .inr ⟨g, cap, cur, fz, hv, Nat.zero_le _, rest⟩
theorem WT.keep {top b : Nat} {w w' : World} {l : List UInt8} (h : WT top w b l) (hb : w'.heap[b]? = w.heap[b]?) (hk : ∀ g, g < top → (∃ cur fz, w.heap[g]? = some (.cells cur 5 fz)) → w'.heap[g]? = w.heap[g]?) : WT top w' b l := by
  obtain ⟨p, v, h1, h2, h3, h4⟩ := h
  refine ⟨p, v, h1, hb.trans h2, ownF_kept h3 fun g hg => hk g (h4 g hg) ?_, h4⟩
  rcases h3.2 with ⟨rfl, _⟩ | ⟨g', cap, cur, fz, rfl, _, hgg, _⟩
  · simp [Value.ownBlock] at hg
  · simp only [Value.ownBlock, Option.some.injEq] at hg
    subst hg
    exact ⟨cur, fz, hgg⟩
/-- Two writers, both written: the first one's row lies ahead of base, the second one's from base on. -/
structure W2 (base a b : Nat) (la lb : List UInt8) (w : World) : Prop where
  wa : WT base w a la
  wb : WB base w b lb
  ne : a ≠ b
theorem W2.below {base a b : Nat} {la lb : List UInt8} {w w' : World} (h : W2 base a b la lb w) (hk : Below w.heap.size w w') : W2 base a b la lb w' := by
  refine ⟨h.wa.keep ?_ (fun g _ ⟨cur, fz, hg⟩ => hk.block g (Array.getElem?_eq_some_iff.1 hg).1), h.wb.below hk, h.ne⟩
  obtain ⟨p, v, _, h2, _⟩ := h.wa
  exact hk.block a (Array.getElem?_eq_some_iff.1 h2).1
theorem frz_below {N g : Nat} {w : World} (h : N ≤ g) (n : Nat) : Below N w (w.drew.freeze ⟨g, 0, none⟩ n) := Lib.below_freeze (Below.drew (Below.refl N w)) (p := ⟨g, 0, none⟩) h n
theorem wtext_a {base a b N : Nat} {la lb : List UInt8} (w : World) (h : W2 base a b la lb w) (h0 : la ≠ []) (hl : la.length ≤ 1000000000) (hN : ∀ p v g, w.heap[a]? = some (.cells #[p, v] 70 (0, 0)) → v.ownBlock = some g → N ≤ g) :
    Calls Try.prog 42 #[.pointer (some ⟨a, 0, none⟩)] w fun x w' => x = .returned (.string (Str la)) ∧ W2 base a b la lb w' ∧ Below N w w' ∧ (∀ p v g, w'.heap[a]? = some (.cells #[p, v] 70 (0, 0)) → v.ownBlock = some g → N ≤ g) := by
  obtain ⟨p, v, hp, hbk, hown, htop⟩ := h.wa
  have hl0 : la.length ≠ 0 := by simpa using h0
  obtain ⟨g, cap, cur, fz, rfl, hg⟩ : ∃ g cap cur fz, v = .slice (some ⟨g, 0, none⟩) la.length cap ∧ w.heap[g]? = some (.cells cur 5 fz) := by
    rcases hown.2 with ⟨_, hz⟩ | ⟨g, cap, cur, fz, hv, _, hg, _⟩
    · exact absurd hz hl0
    · exact ⟨g, cap, cur, fz, hv, hg⟩
  have hgt := htop g rfl
  have hgN := hN p _ g hbk rfl
  refine (wtext_core 0 a g cap la p w hbk hown h0 hl).mono ?_
  rintro x w' ⟨rfl, rfl⟩
  have hne : g ≠ a := fun e => by subst e; rw [hg] at hbk; simp at hbk
  refine ⟨rfl, ⟨?_, ?_, h.ne⟩, frz_below hgN _, ?_⟩
  · obtain ⟨p2, v2, q1, q2, q3⟩ := WB.froze (w := w.drew) hp hbk hown
    have e : (w.drew.freeze ⟨g, 0, none⟩ la.length).heap[a]? = some (.cells #[p, .slice (some ⟨g, 0, none⟩) la.length cap] 70 (0, 0)) := (frz_kept (w := w.drew) hne.symm).trans hbk
    refine ⟨p2, v2, q1, q2, q3, fun g' hg' => ?_⟩
    rw [e] at q2
    simp only [Option.some.injEq, Obj.cells.injEq] at q2
    have : v2 = .slice (some ⟨g, 0, none⟩) la.length cap := by
      have := q2.1
      simp at this
      exact this.2.symm
    subst this
    simp [Value.ownBlock] at hg'
    omega
  · obtain ⟨p2, v2, q1, q2, q3⟩ := h.wb
    have hgb : b ≠ g := fun e => by subst e; rw [hg] at q2; simp at q2
    refine ⟨p2, v2, q1, (frz_kept (w := w.drew) hgb).trans q2, ownF_kept q3 fun g2 hg2 => frz_kept (w := w.drew) (by have := (q3.lt g2 hg2).1; omega)⟩
  · intro p3 v3 g3 e3 hv3
    have e : (w.drew.freeze ⟨g, 0, none⟩ la.length).heap[a]? = some (.cells #[p, .slice (some ⟨g, 0, none⟩) la.length cap] 70 (0, 0)) := (frz_kept (w := w.drew) hne.symm).trans hbk
    rw [e] at e3
    exact hN p3 v3 g3 (hbk.trans e3) hv3
theorem wtext_b {base a b N : Nat} {la lb : List UInt8} (w : World) (h : W2 base a b la lb w) (h0 : lb ≠ []) (hl : lb.length ≤ 1000000000) (hNb : N ≤ base) (hN : ∀ p v g, w.heap[a]? = some (.cells #[p, v] 70 (0, 0)) → v.ownBlock = some g → N ≤ g) :
    Calls Try.prog 42 #[.pointer (some ⟨b, 0, none⟩)] w fun x w' => x = .returned (.string (Str lb)) ∧ W2 base a b la lb w' ∧ Below N w w' ∧ (∀ p v g, w'.heap[a]? = some (.cells #[p, v] 70 (0, 0)) → v.ownBlock = some g → N ≤ g) := by
  obtain ⟨p, v, hp, hbk, hown⟩ := h.wb
  have hl0 : lb.length ≠ 0 := by simpa using h0
  obtain ⟨g, cap, cur, fz, rfl, hbg, hg⟩ : ∃ g cap cur fz, v = .slice (some ⟨g, 0, none⟩) lb.length cap ∧ base ≤ g ∧ w.heap[g]? = some (.cells cur 5 fz) := by
    rcases hown.2 with ⟨_, hz⟩ | ⟨g, cap, cur, fz, hv, hbg, hg, _⟩
    · exact absurd hz hl0
    · exact ⟨g, cap, cur, fz, hv, hbg, hg⟩
  refine (wtext_core base b g cap lb p w hbk hown h0 hl).mono ?_
  rintro x w' ⟨rfl, rfl⟩
  have hne : a ≠ g := fun e => by
    obtain ⟨p2, v2, _, q2, _⟩ := h.wa
    subst e; rw [hg] at q2; simp at q2
  have ea := frz_kept (w := w.drew) (n := lb.length) hne
  refine ⟨rfl, ⟨h.wa.keep ea (fun g2 h2 _ => frz_kept (w := w.drew) (by omega)), WB.froze (w := w.drew) hp hbk hown, h.ne⟩, frz_below (by omega) _, fun p3 v3 g3 e3 hv3 => hN p3 v3 g3 (ea.symm.trans e3) hv3⟩
end Go.Proofs.Ytchbkamjmkfikaa

