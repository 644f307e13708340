/-
  The contracts of mld's num, address, end and sources.
-/
import Derived.Test.YtgpccgcppbdlpaaGreatMg36
import Derived.Test.YtgpccgcppbdlpaaGreatMg22
import Derived.Test.YtgpccgcppbdlpaaGreatMgA
namespace Go.Proofs.YtgpccgcppbdlpaaGreat
open Go.RowKit
set_option linter.unusedVariables false
set_option linter.unusedSimpArgs false
attribute [local go_sem ↓] ld_addr st_addr bld_addr adsLit_eq
attribute [local go_sem] ldr_addr str_addr row?_drew_eq

/-- A reader by its place. -/
abbrev rp (b0 : Nat) : Value := .pointer (some ⟨b0, 0, none⟩)
theorem own_keep9 {w w' : World} {base n size : Nat} {v : Value} {xs : List Value} {T : TypeId} (h : w.ownsRow base T size v n xs) (hk : ∀ g, v.ownBlock = some g → w'.heap[g]? = w.heap[g]?) : w'.ownsRow base T size v n xs := by
  obtain ⟨h1, h2 | ⟨g, cap, cur, e1, e2, e3, e4⟩⟩ := h
  · exact ⟨h1, .inl h2⟩
  · exact ⟨h1, .inr ⟨g, cap, cur, e1, e2, (hk g (by rw [e1]; rfl)).trans e3, e4⟩⟩
theorem own_slice9 {w : World} {base n size : Nat} {v : Value} {xs : List Value} {T : TypeId} (h : w.ownsRow base T size v n xs) : ∃ p cap, v = .slice p n cap := by
  obtain ⟨_, h2 | ⟨g, cap, cur, e1, _⟩⟩ := h
  · exact ⟨none, 0, by rw [h2.1, h2.2]⟩
  · exact ⟨_, _, e1⟩
theorem row_ne9 {w : World} {base m n size : Nat} {v : Value} {xs : List Value} {L : Array Value} {T T' : TypeId} (h : w.ownsRow base T size v n xs) (hm : ObjAt w m L T') (hT : T ≠ T') : some m ≠ v.ownBlock := by
  obtain ⟨_, h2 | ⟨g, cap, cur, rfl, _, hg, _⟩⟩ := h
  · rw [h2.1]; simp [Value.ownBlock]
  · intro e
    simp only [Value.ownBlock, Option.some.injEq] at e
    subst e
    unfold ObjAt at hm
    rw [hg] at hm
    simp only [Option.some.injEq, Obj.cells.injEq] at hm
    exact hT hm.2.1
abbrev RNum (b0 : Nat) (l : List UInt8) (k : Nat) (bad : Bool) (wd : Int) (n : Nat) (l' : List UInt8) (k' : Nat) (bad' : Bool) : Prop := ∀ W, RdAt W b0 l k bad → Calls Tryz.prog 81 #[rp b0, .int .i64 wd] W fun x w' => x = .returned (.int .i64 n) ∧ RdAt w' b0 l' k' bad' ∧ W.grownBy w' (some b0)
abbrev RAdr (b0 : Nat) (l : List UInt8) (k : Nat) (bad : Bool) (a : AD) (l' : List UInt8) (k' : Nat) (bad' : Bool) : Prop := ∀ W, RdAt W b0 l k bad → Calls Tryz.prog 83 #[rp b0] W fun x w' => x = .returned (.agg (adC a).toArray) ∧ RdAt w' b0 l' k' bad' ∧ W.grownBy w' (some b0)
abbrev RTk (b0 : Nat) (l : List UInt8) (k : Nat) (bad : Bool) (n : Int) (l' : List UInt8) (k' : Nat) (bad' : Bool) : Prop := ∀ W, RdAt W b0 l k bad → Calls Tryz.prog 82 #[rp b0, .int .i64 n] W fun x w' => (∃ t, x = .returned (.string t)) ∧ RdAt w' b0 l' k' bad' ∧ W.grownBy w' (some b0)
theorem m9num_any (b0 : Nat) (l : List UInt8) (k : Nat) (bad : Bool) (n : Nat) (hn : n ≤ 4) (hl : l.length ≤ 1000000) (hk : k ≤ 1000000) : RNum b0 l k bad n (num (takeV l bad n)) (leftV l bad n) (pastV l bad n k) (badV l bad n) := fun w h => by
  have HN := Lib.hid (fun W (h : RdAt W b0 l k bad) => numq_any b0 l k bad n (by omega) hl hk W h)
  have h1 := num_takeV l bad n hn
  have h2 : 256 ^ n ≤ 4294967296 := Nat.le_trans (Nat.pow_le_pow_right (by omega) hn) (by decide : 256 ^ 4 ≤ 4294967296)
  have H0 := Lib.hid h
  generalize num (takeV l bad n) = m at *
  generalize leftV l bad n = l' at *
  generalize pastV l bad n k = k' at *
  generalize badV l bad n = bad' at *
  have hw : IntKind.i64.wrap (m : Int) = (m : Int) := by simp only [IntKind.wrap_i64]; omega
  clear h1 h2 h
  go_enter Tryz.func81, Tryz.ntmps81
  go_wp2_with (go_at_call 102; (with_reducible refine (HN.out _ H0.out).mono ?_); rintro x w1 ⟨rfl, h9, k9⟩; have H1 := Lib.hid (And.intro h9 k9); clear h9 k9)
  go_ret
  exact ⟨rfl, H1.out.1, H1.out.2⟩
theorem rend_any (b0 : Nat) (l : List UInt8) (k : Nat) (bad : Bool) (w : World) (h : RdAt w b0 l k bad) :
    Calls Tryz.prog 105 #[rp b0] w fun x w' => x = .returned (.int .i64 (if bad then 3 else 0)) ∧ w = w' := by
  have HN := Lib.hid (fun W (h : RdAt W b0 l k bad) => bad_any b0 l k bad W h)
  have H0 := Lib.hid h
  clear h
  cases bad with
  | true =>
    go_enter Tryz.func105, Tryz.ntmps105
    go_wp2_with (go_at_call 84; (with_reducible refine (HN.out _ H0.out).mono ?_); rintro x w1 ⟨rfl, h9⟩; subst h9)
    go_ret
    exact ⟨rfl, rfl⟩
  | false =>
    go_enter Tryz.func105, Tryz.ntmps105
    go_wp2_with (go_at_call 84; (with_reducible refine (HN.out _ H0.out).mono ?_); rintro x w1 ⟨rfl, h9⟩; subst h9)
    go_ret
    exact ⟨rfl, rfl⟩
/-- What address makes of what it took. -/
def ad16 (t : List UInt8) : AD := (adV t, adL t)
theorem ad16_ok (t : List UInt8) : adOk (ad16 t) := adL_length t
set_option maxRecDepth 100000 in
set_option maxHeartbeats 1000000 in
theorem radr9_any (b : Nat) (l : List UInt8) (k : Nat) (bad : Bool) (hl : l.length ≤ 1000000) (hk : k ≤ 1000000) : RAdr b l k bad (ad16 (takeV l bad 16)) (leftV l bad 16) (pastV l bad 16 k) (badV l bad 16) := fun w h => by
  have HT := Lib.hid (TQ.start w b l k bad h)
  have HR : Hid (∀ W, RdAt W b l k bad → Calls Tryz.prog 82 #[.pointer (some ⟨b, 0, none⟩), .int .i64 16] W fun e w' => e = .returned (.string (Str (takeV l bad 16))) ∧ RdAt w' b (leftV l bad 16) (pastV l bad 16 k) (badV l bad 16) ∧ W.grownBy w' (some b)) := Lib.hid fun W hW => take_any b l k bad 16 hl hk W hW
  have HA := Lib.hid (fun W => read_took l bad W)
  have hal := adL_length (takeV l bad 16)
  rw [show adC (ad16 (takeV l bad 16)) = addrC (adV (takeV l bad 16)) (adL (takeV l bad 16)) from rfl]
  generalize adV (takeV l bad 16) = v at HA ⊢
  generalize adL (takeV l bad 16) = x at HA hal ⊢
  generalize takeV l bad 16 = t at HR HA
  generalize leftV l bad 16 = l' at HR ⊢
  generalize pastV l bad 16 k = k' at HR ⊢
  generalize badV l bad 16 = bad' at HR ⊢
  have hfok := fok_addr v x hal
  have HL := Lib.hid (show (addrC v x).length = 17 by rw [addrC_length, hal])
  clear h hal
  go_enter Tryz.func83, Tryz.ntmps83
  go_upto_region 1 with (fail)
  generalize w.alloc (.cells #[.bool false, .int .u8 0, .int .u8 0, .int .u8 0, .int .u8 0, .int .u8 0, .int .u8 0, .int .u8 0, .int .u8 0, .int .u8 0, .int .u8 0, .int .u8 0, .int .u8 0, .int .u8 0, .int .u8 0, .int .u8 0, .int .u8 0] 24) = W at HT ⊢
  have hfm : ∀ W : World, free? (W.alloc (.cells #[.bool false, .int .u8 0, .int .u8 0, .int .u8 0, .int .u8 0, .int .u8 0, .int .u8 0, .int .u8 0, .int .u8 0, .int .u8 0, .int .u8 0, .int .u8 0, .int .u8 0, .int .u8 0, .int .u8 0, .int .u8 0, .int .u8 0] 24)) W.heap.size 0 17 = true := fun W => free_made W _ _ 17 (by simp)
  go_upto_region 2 with (first
    | (go_at_call 82; refine (HR.out _ HT.out.1).mono ?_; rintro e w1 ⟨rfl, hr1, hg1⟩; have HT1 := Lib.hid (HT.out.grown hr1 hg1); clear hr1 hg1)
    | (go_at_call 103; obtain ⟨c, hc⟩ := HA.out w1; refine hc.mono ?_; rintro e w2 ⟨rfl, hb2⟩; clear hc; have HT2 := Lib.hid (HT1.out.below hb2); clear hb2))
  have hlt := HT2.out.2.1.lt
  have hm := aggW_row (cs := addrC v x) (hfm w2) HL.out
  have HT3 := Lib.hid (((HT2.out.below ((Below.refl _ _).alloc (Nat.le_refl _) (.cells #[.bool false, .int .u8 0, .int .u8 0, .int .u8 0, .int .u8 0, .int .u8 0, .int .u8 0, .int .u8 0, .int .u8 0, .int .u8 0, .int .u8 0, .int .u8 0, .int .u8 0, .int .u8 0, .int .u8 0, .int .u8 0, .int .u8 0] 24)))).put (addrC v x) w2.heap.size hlt)
  have hf3 : free? (aggW (w2.alloc (.cells #[.bool false, .int .u8 0, .int .u8 0, .int .u8 0, .int .u8 0, .int .u8 0, .int .u8 0, .int .u8 0, .int .u8 0, .int .u8 0, .int .u8 0, .int .u8 0, .int .u8 0, .int .u8 0, .int .u8 0, .int .u8 0, .int .u8 0] 24)) w2.heap.size (addrC v x)) w.heap.size 0 17 = true := obj_free HT3.out.2.1 (by simp)
  generalize aggW (w2.alloc (.cells #[.bool false, .int .u8 0, .int .u8 0, .int .u8 0, .int .u8 0, .int .u8 0, .int .u8 0, .int .u8 0, .int .u8 0, .int .u8 0, .int .u8 0, .int .u8 0, .int .u8 0, .int .u8 0, .int .u8 0, .int .u8 0, .int .u8 0] 24)) w2.heap.size (addrC v x) = W3 at HT3 hf3 hm ⊢
  go_wp2
  obtain ⟨q1, q2, q3⟩ := HT3.out.done (addrC v x) HL.out
  exact bodyPost_ret (results_cell Tryz.results83 rfl (ld_some q1 (ldr_addr _ _ _))) rfl ⟨rfl, q2, q3⟩
/-- What a reader of some text gives at a place of it. -/
theorem radr_good (b0 : Nat) (s : List UInt8) (i k : Nat) (hk : k ≤ i) (hi : i + 16 ≤ s.length) (hl : s.length ≤ 1000000) : RAdr b0 (s.drop i) k false (sixL s i) (s.drop (i + 16)) (k + 16) false := fun W h => by
  have := radr9_any b0 (s.drop i) k false (by simp; omega) (by omega) W h
  obtain ⟨e1, e2, e3, e4⟩ := rd_good (l := s.drop i) (n := 16) (k := k) (by simp; omega)
  have hl4 : ((s.drop i).take 16).length = 16 := by simp; omega
  rw [show takeV (s.drop i) false 16 = (s.drop i).take 16 from e1, show leftV (s.drop i) false 16 = (s.drop i).drop 16 from e2, show pastV (s.drop i) false 16 k = k + 16 from e3, show badV (s.drop i) false 16 = false from e4, List.drop_drop] at this
  have ea : ad16 ((s.drop i).take 16) = sixL s i := by
    unfold ad16 sixL adV adL
    rw [if_pos hl4, decide_eq_true hl4]
    rw [show readV ((s.drop i).take 16) = (s.drop i).take 16 by unfold readV; rw [hl4]; simp]
  rw [ea] at this
  exact this
/-- Where a reader has nothing more, or too little. -/
theorem radr_bad (b0 : Nat) (l : List UInt8) (k : Nat) (bad : Bool) (hl : l.length ≤ 1000000) (hk : k ≤ 1000000) (hP : bad = true ∨ l.length < 16) :
    ∃ a : AD, RAdr b0 l k bad a l k true ∧ adOk a := by
  refine ⟨ad16 (takeV l bad 16), fun W h => ?_, ad16_ok _⟩
  have := radr9_any b0 l k bad hl hk W h
  cases bad with
  | true =>
    obtain ⟨e1, e2, e3, e4⟩ := rd_dead (l := l) (n := 16) (k := k)
    rw [e2, e3, e4] at this
    exact this
  | false =>
    obtain ⟨e1, e2, e3, e4⟩ := rd_short (l := l) (n := 16) (k := k) (by rcases hP with h | h; cases h; exact h)
    rw [show leftV l false 16 = l from e2, show pastV l false 16 k = k from e3, show badV l false 16 = true from e4] at this
    exact this
theorem rnum_good (b0 : Nat) (s : List UInt8) (i k wd : Nat) (h4 : wd ≤ 4) (hk : k ≤ i) (hi : i + wd ≤ s.length) (hl : s.length ≤ 1000000) : RNum b0 (s.drop i) k false wd (num ((s.drop i).take wd)) (s.drop (i + wd)) (k + wd) false := fun W h => by
  have := m9num_any b0 (s.drop i) k false wd h4 (by simp; omega) (by omega) W h
  obtain ⟨e1, e2, e3, e4⟩ := rd_good (l := s.drop i) (n := wd) (k := k) (by simp; omega)
  rw [e1, e2, e3, e4, List.drop_drop] at this
  exact this
theorem rtk_good (b0 : Nat) (s : List UInt8) (i k n : Nat) (hk : k ≤ i) (hi : i + n ≤ s.length) (hl : s.length ≤ 1000000) : RTk b0 (s.drop i) k false n (s.drop (i + n)) (k + n) false := fun W h => by
  have := take_any b0 (s.drop i) k false n (by simp; omega) (by omega) W h
  obtain ⟨e1, e2, e3, e4⟩ := rd_good (l := s.drop i) (n := n) (k := k) (by simp; omega)
  rw [e2, e3, e4, List.drop_drop] at this
  exact this.mono fun x w' h => ⟨⟨_, h.1⟩, h.2⟩
theorem by8_num9 (l : List UInt8) (h : 0 < l.length) : num (l.take 1) = by8 l 0 := by
  match l, h with
  | a :: r, _ => show num [a] = _; rw [num1]; rfl
theorem num_by89 (s : List UInt8) (i : Nat) (h : i < s.length) : num ((s.drop i).take 1) = by8 s i := by
  have := by8_num9 (s.drop i) (by simp; omega)
  rw [this, by8_drop]; rfl
/-- What sources works on: the reader, the addresses so far. -/
structure SJ (w W : World) (b0 : Nat) (l : List UInt8) (k : Nat) (bad : Bool) (v : Value) (ls : List AD) : Prop where
  rd : RdAt W b0 l k bad
  own : W.ownsRow w.heap.size 24 17 v ls.length (adsC ls)
  ok : ∀ a ∈ ls, adOk a
  frm : w.grownBy W (some b0)
  l0 : b0 < w.heap.size
theorem SJ.start {w : World} {b0 : Nat} {l : List UInt8} {k : Nat} {bad : Bool} (h : RdAt w b0 l k bad) : SJ w w b0 l k bad (.slice none 0 0) [] :=
  ⟨h, ⟨rfl, Or.inl ⟨rfl, rfl⟩⟩, fun a ha => (by cases ha), ⟨rfl, rfl, rfl, Nat.le_refl _, fun _ _ _ => rfl⟩, ObjAt.lt h⟩
theorem SJ.call {w W W' : World} {b0 : Nat} {l l' : List UInt8} {k k' : Nat} {bad bad' : Bool} {v : Value} {ls : List AD} (h : SJ w W b0 l k bad v ls) (hr : RdAt W' b0 l' k' bad') (hg : W.grownBy W' (some b0)) : SJ w W' b0 l' k' bad' v ls := by
  have l0 := h.l0
  exact ⟨hr, own_keep9 h.own (fun g e => hg.block g (by
    obtain ⟨_, h2 | ⟨g', cap, cur, e1, e2, e3, _⟩⟩ := h.own
    · rw [h2.1] at e; simp [Value.ownBlock] at e
    · rw [e1] at e; simp only [Value.ownBlock, Option.some.injEq] at e; subst e; exact (Array.getElem?_eq_some_iff.1 e3).1) (by
    obtain ⟨_, h2 | ⟨g', cap, cur, e1, e2, e3, _⟩⟩ := h.own
    · rw [h2.1] at e; simp [Value.ownBlock] at e
    · rw [e1] at e; simp only [Value.ownBlock, Option.some.injEq] at e; subst e; simp; omega)), h.ok, gtrans h.frm hg, h.l0⟩
theorem SJ.below {w W W' : World} {b0 : Nat} {l : List UInt8} {k : Nat} {bad : Bool} {v : Value} {ls : List AD} (h : SJ w W b0 l k bad v ls) (hb : Below W.heap.size W W') : SJ w W' b0 l k bad v ls :=
  ⟨ObjAt.below h.rd hb (ObjAt.lt h.rd), own_below8 h.own hb, h.ok, qbelow h.frm (hb.mono h.frm.size), h.l0⟩
theorem SJ.app {w W W2 : World} {b0 : Nat} {l : List UInt8} {k : Nat} {bad : Bool} {v v' : Value} {ls : List AD} {a : AD} (h : SJ w W b0 l k bad v ls) (ho : adOk a) (hown : W2.ownsRow w.heap.size 24 17 v' (ls.length + 1) (adsC ls ++ adC a)) (hg : W.grownBy W2 v.ownBlock) : SJ w W2 b0 l k bad v' (ls ++ [a]) := by
  have l0 := h.l0
  refine ⟨ObjAt.grown h.rd hg (row_ne9 h.own h.rd (by decide)), ?_, ?_, ?_, l0⟩
  · rw [show adsC (ls ++ [a]) = adsC ls ++ adC a by simp [adsC], List.length_append]; exact hown
  · intro x hx
    rcases List.mem_append.1 hx with hx | hx
    · exact h.ok x hx
    · rw [List.mem_singleton] at hx; subst hx; exact ho
  · refine ⟨hg.os.trans h.frm.os, hg.tape.trans h.frm.tape, hg.output.trans h.frm.output, Nat.le_trans h.frm.size hg.size, fun i hi hne => ?_⟩
    refine (hg.block i (Nat.lt_of_lt_of_le hi h.frm.size) (fun e => ?_)).trans (h.frm.block i hi hne)
    obtain ⟨_, q2 | ⟨g', cap, cur, q1, q2, _⟩⟩ := h.own
    · rw [q2.1] at e; simp [Value.ownBlock] at e
    · rw [q1] at e; simp only [Value.ownBlock, Option.some.injEq] at e; omega
theorem SJ.adst {w W : World} {b0 : Nat} {l : List UInt8} {k : Nat} {bad : Bool} {v : Value} {ls : List AD} (h : SJ w W b0 l k bad v ls) : AdsT W v ls := ⟨Ads.own h.ok h.own, AdT.own h.own⟩
/-- Where sources stands behind so many addresses. -/
def SrcI (s : List UInt8) (i k j : Nat) (l : List UInt8) (k' : Nat) (bad : Bool) (ls : List AD) : Prop :=
  ls.length = j ∧ l.length ≤ s.length ∧ k' ≤ s.length ∧ (bad = false → i + 16 * j ≤ s.length ∧ l = s.drop (i + 16 * j) ∧ k' = k + 16 * j ∧ ls = srcsL9 s i j) ∧ (bad = true → s.length < i + 16 * j)
theorem srcsL9_snoc (s : List UInt8) (i n : Nat) : srcsL9 s i (n + 1) = srcsL9 s i n ++ [sixL s (i + 16 * n)] := by
  unfold srcsL9
  rw [List.range_succ]
  simp
theorem SrcI.step {s : List UInt8} {i k j : Nat} {l : List UInt8} {k' : Nat} {bad : Bool} {ls : List AD} (h : SrcI s i k j l k' bad ls) (hk : k ≤ i) (hs : s.length ≤ 100000) (b0 : Nat) :
    ∃ (a : AD) (l2 : List UInt8) (k2 : Nat) (bad2 : Bool), RAdr b0 l k' bad a l2 k2 bad2 ∧ adOk a ∧ SrcI s i k (j + 1) l2 k2 bad2 (ls ++ [a]) := by
  obtain ⟨h1, h2, h3, h4, h5⟩ := h
  cases bad with
  | true =>
    obtain ⟨a, p, ho⟩ := radr_bad b0 l k' true (by omega) (by omega) (Or.inl rfl)
    have := h5 rfl
    exact ⟨a, l, k', true, p, ho, by simp [h1], h2, h3, fun h => (by cases h), fun _ => by omega⟩
  | false =>
    obtain ⟨g1, rfl, rfl, rfl⟩ := h4 rfl
    by_cases hg : i + 16 * j + 16 ≤ s.length
    · refine ⟨_, _, _, _, radr_good b0 s (i + 16 * j) (k + 16 * j) (by omega) hg (by omega), sixL_ok _ _, by simp [h1], by simp, by omega, fun _ => ⟨by omega, by rw [show i + 16 * (j + 1) = i + 16 * j + 16 by omega], by omega, (srcsL9_snoc s i j).symm⟩, fun h => by cases h⟩
    · obtain ⟨a, p, ho⟩ := radr_bad b0 (s.drop (i + 16 * j)) (k + 16 * j) false (by simp; omega) (by omega) (Or.inr (by simp; omega))
      exact ⟨a, _, _, true, p, ho, by simp [h1], by simp, h3, fun h => (by cases h), fun _ => by omega⟩
/-- What sources tells. -/
def SrcV (w W' : World) (b0 : Nat) (s : List UInt8) (i k n : Nat) (x : Ending) : Prop :=
  ∃ (v : Value) (e : Int) (ls : List AD) (l' : List UInt8) (k' : Nat) (bad' : Bool), x = .returned (.tuple #[v, .int .i64 e]) ∧ e = srcsE9 s i n ∧ AdsT W' v ls ∧ RdAt W' b0 l' k' bad' ∧ w.grownBy W' (some b0) ∧ l'.length ≤ s.length ∧ k' ≤ s.length ∧ (e = 0 → ls = srcsL9 s i n ∧ l' = s.drop (i + 16 * n) ∧ k' = k + 16 * n ∧ bad' = false)
set_option maxRecDepth 100000 in
set_option maxHeartbeats 2000000 in
theorem m9sources_any (b0 : Nat) (s : List UInt8) (i k n : Nat) (hs : s.length ≤ 100000) (hk : k ≤ i) (hi : i ≤ s.length) (hn : n < 1000000) (w : World) (h : RdAt w b0 (s.drop i) k false) :
    Calls Tryz.prog 104 #[rp b0, .int .i64 n] w fun x W' => SrcV w W' b0 s i k n x := by
  have H0 := Lib.hid (SJ.start h)
  have HSX := Lib.hid (show ∀ (W' : World) (l' : List UInt8) (k' : Nat) (bad' : Bool) (v : Value) (ls : List AD) (e : Int), SJ w W' b0 l' k' bad' v ls → e = srcsE9 s i n → l'.length ≤ s.length → k' ≤ s.length → (e = 0 → ls = srcsL9 s i n ∧ l' = s.drop (i + 16 * n) ∧ k' = k + 16 * n ∧ bad' = false) → SrcV w W' b0 s i k n (.returned (.tuple #[v, .int .i64 e])) from fun W' l' k' bad' v ls e h1 h2 h3 h4 h5 => ⟨v, e, ls, l', k', bad', rfl, h2, h1.adst, h1.rd, h1.frm, h3, h4, h5⟩)
  by_cases hl : 64 < n
  · have HE := Lib.hid (show (6 : Int) = srcsE9 s i n by unfold srcsE9; rw [if_pos hl])
    have t1 : decide ((64 : Int) < (n : Int)) = true := decide_eq_true (by omega)
    have t1n : decide (64 < n) = true := decide_eq_true hl
    clear h
    go_enter Tryz.func104, Tryz.ntmps104
    go_wp2
    go_ret2
    exact HSX.out _ _ _ _ _ _ _ H0.out HE.out (by simp) (by omega) (fun h => by simp at h)
  · have HI0 := Lib.hid (show SrcI s i k 0 (s.drop i) k false [] from ⟨rfl, by simp, by omega, fun _ => ⟨by omega, by simp, by omega, rfl⟩, fun h => by cases h⟩)
    have t1 : ¬ (64 : Int) < (n : Int) := by omega
    have HEN : Hid (∀ (l : List UInt8) (k' : Nat) (bad : Bool) (ls : List AD), SrcI s i k n l k' bad ls → (if bad = true then (3 : Int) else 0) = srcsE9 s i n ∧ l.length ≤ s.length ∧ k' ≤ s.length ∧ ((if bad = true then (3 : Int) else 0) = 0 → ls = srcsL9 s i n ∧ l = s.drop (i + 16 * n) ∧ k' = k + 16 * n ∧ bad = false)) := Lib.hid fun l k' bad ls hI => by
      obtain ⟨h1, h2, h3, h4, h5⟩ := hI
      unfold srcsE9
      rw [if_neg hl]
      cases bad with
      | true => exact ⟨(show (3 : Int) = if s.length < i + 16 * n then 3 else 0 by rw [if_pos (h5 rfl)]), h2, h3, fun h => by simp at h⟩
      | false =>
        obtain ⟨g1, g2, g3, g4⟩ := h4 rfl
        exact ⟨(show (0 : Int) = if s.length < i + 16 * n then 3 else 0 by rw [if_neg (Nat.not_lt.2 g1)]), h2, h3, fun _ => ⟨g4, g2, g3, rfl⟩⟩
    have HST := Lib.hid (fun (j : Nat) (l : List UInt8) (k' : Nat) (bad : Bool) (ls : List AD) (hI : SrcI s i k j l k' bad ls) => hI.step hk hs b0)
    have HLEN := Lib.hid (fun (j : Nat) (l : List UInt8) (k' : Nat) (bad : Bool) (ls : List AD) (hI : SrcI s i k j l k' bad ls) => hI.1)
    obtain ⟨i0, hi0, hz0, hz1, hz2⟩ := info_parts info_ad
    have hn64 : n ≤ 64 := by omega
    clear h hl
    go_enter Tryz.func104, Tryz.ntmps104
    go_wp2_with fail
    go_loopw [6, 10] (fun v q wr => ∃ (j : Nat) (l : List UInt8) (k' : Nat) (bad : Bool) (ls : List AD), j ≤ n ∧ q = .int .i64 j ∧ Hid (SrcI s i k j l k' bad ls) ∧ Hid (SJ w wr b0 l k' bad v ls)) (fun _ q _ => n - (intOf q).toNat)
    case atStart => exact ⟨0, _, _, _, _, by omega, rfl, HI0, H0⟩
    case round =>
      obtain ⟨j, l, k', bad, ls, hj, rfl, HI, HS⟩ := hrel
      by_cases hlt : j < n
      · have hk1 : (j : Int) < (n : Int) := by omega
        have hw1 : IntKind.i64.wrap ((j : Int) + 1) = (j : Int) + 1 := by simp only [IntKind.wrap_i64]; omega
        obtain ⟨a, l2, k2, bad2, p, ho, I2⟩ := HST.out j l k' bad ls HI.out
        have HA := Lib.hid p
        have HI2 := Lib.hid I2
        have HO := Lib.hid ho
        have HLn := Lib.hid (HLEN.out j l k' bad ls HI.out)
        have hlit := adsLit_run a ho
        have HL := Lib.hid (adC_length ho)
        have H1 : Hid (∀ u ∈ adC a, u.oneCell' = true) := Lib.hid (addrC_one _ _)
        obtain ⟨pp, cp, ev⟩ := own_slice9 HS.out.own
        subst ev
        clear p I2 ho
        go_wp2_with (first
          | (go_at_call 83; (with_reducible refine (HA.out _ HS.out.rd).mono ?_); rintro x w1 ⟨rfl, h9, k9⟩; have G1 := Lib.hid (HS.out.call h9 k9); clear h9 k9; have G2 := Lib.hid (G1.out.below ((Below.refl w1.heap.size w1).alloc (Nat.le_refl _) (.cells (adC a).toArray 24))); have hown := G2.out.own; have hz := G1.out.frm.size; have hl17 := HL.out; have h1c := H1.out)
          | (at_builtin; refine wpList_append_own _ rfl _ _ 25 rfl w.heap.size 24 i0 (.agg #[.bool false, .int .u8 0, .int .u8 0, .int .u8 0, .int .u8 0, .int .u8 0, .int .u8 0, .int .u8 0, .int .u8 0, .int .u8 0, .int .u8 0, .int .u8 0, .int .u8 0, .int .u8 0, .int .u8 0, .int .u8 0, .int .u8 0]) 17 17 Tryz.underlying25 hi0 hz0 hz1 hz2 rfl (by decide) _ _ _ rfl hown ⟨w1.heap.size, 0, none⟩ 1 1 (adC a) rfl hl17 (World.news_of_block (heap_alloc_new w1 _)) h1c (by have := HLn.out; unfold maxLen; omega) (by have := HLn.out; omega) (by simp; omega) ?_; intro v' w2 hown' hgrow hnil; have G3 := Lib.hid (G2.out.app HO.out hown' hgrow); clear hown' hgrow hnil hown hz hl17 h1c))
        go_roundw
        case rel => exact ⟨j + 1, _, _, _, _, by omega, by go_num, HI2, G3⟩
        case measure => simp [intOf]; omega
      · have hk1 : ¬ (j : Int) < (n : Int) := by omega
        have hjn : j = n := by omega
        subst hjn
        have HQ := Lib.hid (HEN.out _ _ _ _ HI.out)
        obtain ⟨ec, hec⟩ : ∃ ec : Int, ec = if bad = true then 3 else 0 := ⟨_, rfl⟩
        rw [← hec] at HQ
        have HE : Hid (∀ W, RdAt W b0 l k' bad → Calls Tryz.prog 105 #[rp b0] W fun x w' => x = .returned (.int .i64 ec) ∧ W = w') := Lib.hid fun W h => by rw [hec]; exact rend_any b0 l k' bad W h
        obtain ⟨pp, cp, ev⟩ := own_slice9 HS.out.own
        subst ev
        clear hec
        go_wp2_with (go_at_call 105; (with_reducible refine (HE.out _ HS.out.rd).mono ?_); rintro x w5 ⟨rfl, rfl⟩)
        go_ret2
        exact HSX.out _ _ _ _ _ _ _ HS.out HQ.out.1 HQ.out.2.1 HQ.out.2.2.1 HQ.out.2.2.2
end Go.Proofs.YtgpccgcppbdlpaaGreat
