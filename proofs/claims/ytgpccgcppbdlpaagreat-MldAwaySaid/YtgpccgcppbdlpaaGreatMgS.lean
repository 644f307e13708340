/-
  The contract of mld's report.
-/
import Derived.Test.YtgpccgcppbdlpaaGreatMgR
import Derived.Test.YtgpccgcppbdlpaaGreatMgD
import Derived.Test.YtgpccgcppbdlpaaGreatMdR
namespace Go.Proofs.YtgpccgcppbdlpaaGreat
open Go.RowKit
set_option linter.unusedVariables false
set_option linter.unusedSimpArgs false
attribute [local go_sem ↓] ld_addr st_addr bld_addr ld_rec st_rec bld_rec ld_tk st_tk bld_tk rcsLit_eq
attribute [local go_sem] ldr_addr str_addr str_addr_at ldr_rec str_rec ldr_tk str_tk row?_drew_eq

theorem RQ.far9 {base : Nat} {w w' : World} {v : Value} {q : List (RC × Value)} {m : Nat} {L : Array Value} {T : TypeId} (h : RQ base w v q) (hm : ObjAt w m L T) (h1 : T ≠ 24) (h2 : T ≠ 62) (hg : w.grownBy w' (some m)) : RQ base w' v q := by
  refine ⟨own_keep9 h.1 (fun g hgg => ?_), fun x hx => ?_⟩
  · have hne := row_ne9 h.1 hm h2.symm
    refine hg.block g ?_ (fun e => hne (by rw [hgg, e]))
    obtain ⟨_, q2 | ⟨g', cap, cur, q1, q2, q3, _⟩⟩ := h.1
    · rw [q2.1] at hgg; simp [Value.ownBlock] at hgg
    · rw [q1] at hgg; simp only [Value.ownBlock, Option.some.injEq] at hgg; subst hgg; exact (Array.getElem?_eq_some_iff.1 q3).1
  · obtain ⟨a, b, c⟩ := h.2 x hx
    have := AdsT.far9 (l := x.1.src) ⟨b, c⟩ hm h1 hg
    exact ⟨a, this.1, this.2⟩
/-- A report that bears records so far. -/
def rep9W (l : List RC) : TK := ⟨true, 2, 2, 0, zeroA, false, 0, 0, [], l⟩
/-- What report works on. -/
structure TI9 (w W : World) (b0 m : Nat) (l : List UInt8) (k : Nat) (bad : Bool) (ur : Value) (q : List (RC × Value)) : Prop where
  rd : RdAt W b0 l k bad
  res : ObjAt W w.heap.size #[.bool false, .int .i64 0, .int .i64 0, .int .i64 0, .bool false, .int .u8 0, .int .u8 0, .int .u8 0, .int .u8 0, .int .u8 0, .int .u8 0, .int .u8 0, .int .u8 0, .int .u8 0, .int .u8 0, .int .u8 0, .int .u8 0, .int .u8 0, .int .u8 0, .int .u8 0, .int .u8 0, .bool false, .int .i64 0, .int .i64 0, .slice none 0 0, .slice none 0 0] 28
  tk : TkAt W m (rep9W (q.map Prod.fst)) (.slice none 0 0) ur
  rq : RQ w.heap.size W ur q
  frm : w.grownBy W (some b0)
  lm : w.heap.size < m
  l0 : b0 < w.heap.size
theorem TI9.below {w W : World} {b0 m : Nat} {l : List UInt8} {k : Nat} {bad : Bool} {ur : Value} {q : List (RC × Value)} {W' : World} (h : TI9 w W b0 m l k bad ur q) (hb : Below W.heap.size W W') : TI9 w W' b0 m l k bad ur q :=
  ⟨ObjAt.below h.rd hb (ObjAt.lt h.rd), h.res.below hb h.res.lt, h.tk.below hb, h.rq.below hb, qbelow h.frm (hb.mono h.frm.size), h.lm, h.l0⟩
theorem TI9.call {w W : World} {b0 m : Nat} {l : List UInt8} {k : Nat} {bad : Bool} {ur : Value} {q : List (RC × Value)} {W' : World} {l' : List UInt8} {k' : Nat} {bad' : Bool} (h : TI9 w W b0 m l k bad ur q) (hr : RdAt W' b0 l' k' bad') (hg : W.grownBy W' (some b0)) : TI9 w W' b0 m l' k' bad' ur q := by
  have l0 := h.l0; have lm := h.lm
  exact ⟨hr, ObjAt.grown h.res hg (by simp; omega), ⟨ObjAt.grown h.tk.1 hg (by simp; omega), h.tk.2⟩, h.rq.far9 h.rd (by decide) (by decide) hg, gtrans h.frm hg, h.lm, h.l0⟩
theorem TI9.c {w W : World} {b0 m : Nat} {l : List UInt8} {k : Nat} {bad : Bool} {ur : Value} {q : List (RC × Value)} (h : TI9 w W b0 m l k bad ur q) : W.cell? ⟨m, 25, none⟩ = some ur ∧ W.frozen? ⟨m, 25, none⟩ = false ∧ row? W m 0 26 = some (tkC (rep9W (q.map Prod.fst)) (.slice none 0 0) ur) ∧ free? W w.heap.size 0 26 = true :=
  ⟨h.tk.ur, ObjAt.free h.tk.1 25, h.tk.row, obj_free h.res (by simp)⟩
/-- One more record is appended and stored. -/
theorem TI9.app {w W : World} {b0 m : Nat} {l : List UInt8} {k : Nat} {bad : Bool} {ur : Value} {q : List (RC × Value)} {W2 : World} {v' : Value} {r : RC} {u : Value} (h : TI9 w W b0 m l k bad ur q) (hr : adOk r.g ∧ Ads W u r.src ∧ AdT W u) (hown : W2.ownsRow w.heap.size 62 19 v' (q.length + 1) (rqC q ++ rcC r u)) (hg : W.grownBy W2 ur.ownBlock) :
    TI9 w (W2.setCell ⟨m, 25, none⟩ v') b0 m l k bad v' (q ++ [(r, u)]) ∧ (W2.cell? ⟨m, 25, none⟩ = some ur ∧ W2.frozen? ⟨m, 25, none⟩ = false) := by
  have l0 := h.l0; have lm := h.lm
  have r1 := row_ne9 h.rq.1 h.rd (by decide)
  have r3 := row_ne9 h.rq.1 h.res (by decide)
  have r4 := row_ne9 h.rq.1 h.tk.1 (by decide)
  have h1 := ObjAt.grown h.rd hg r1
  have h3 := ObjAt.grown h.res hg r3
  have h4 : TkAt W2 m (rep9W (q.map Prod.fst)) (.slice none 0 0) ur := ⟨ObjAt.grown h.tk.1 hg r4, h.tk.2⟩
  have hq := RQ.snoc h.rq hr hown hg
  have hb : w.grownBy W2 (some b0) := by
    refine ⟨hg.os.trans h.frm.os, hg.tape.trans h.frm.tape, hg.output.trans h.frm.output, Nat.le_trans h.frm.size hg.size, fun i hi hne => ?_⟩
    refine (hg.block i (Nat.lt_of_lt_of_le hi h.frm.size) (fun e => ?_)).trans (h.frm.block i hi hne)
    obtain ⟨_, q2 | ⟨g', cap, cur, q1, q2, _⟩⟩ := h.rq.1
    · rw [q2.1] at e; simp [Value.ownBlock] at e
    · rw [q1] at e; simp only [Value.ownBlock, Option.some.injEq] at e; omega
  refine ⟨⟨ObjAt.other h1 _ _ (by simp; omega), ObjAt.other h3 _ _ (by simp; omega), ⟨?_, zeroA_ok⟩, hq.far9 h4.1 (by decide) (by decide) (gset W2 m 25 v'), ?_, lm, l0⟩, h4.ur, ObjAt.free h4.1 25⟩
  · have := ObjAt.set h4.1 25 v'
    rw [List.setIfInBounds_toArray, tkC_rcs (rep9W (q.map Prod.fst)) (.slice none 0 0) ur zeroA_ok v' ((q ++ [(r, u)]).map Prod.fst)] at this
    exact this
  · refine ⟨hb.os, hb.tape, hb.output, by simpa [World.setCell] using hb.size, fun i hi hne => ?_⟩
    exact (heap_setCell_other W2 ⟨m, 25, none⟩ i v' (by simp; omega)).trans (hb.block i hi hne)
/-- The result's block. -/
structure P0T9 (w W : World) (b0 : Nat) (l : List UInt8) (k : Nat) (bad : Bool) : Prop where
  rd : RdAt W b0 l k bad
  res : ObjAt W w.heap.size #[.bool false, .int .i64 0, .int .i64 0, .int .i64 0, .bool false, .int .u8 0, .int .u8 0, .int .u8 0, .int .u8 0, .int .u8 0, .int .u8 0, .int .u8 0, .int .u8 0, .int .u8 0, .int .u8 0, .int .u8 0, .int .u8 0, .int .u8 0, .int .u8 0, .int .u8 0, .int .u8 0, .bool false, .int .i64 0, .int .i64 0, .slice none 0 0, .slice none 0 0] 28
  frm : w.grownBy W (some b0)
  l0 : b0 < w.heap.size
theorem P0T9.start {w : World} {b0 : Nat} {l : List UInt8} {k : Nat} {bad : Bool} (h : RdAt w b0 l k bad) : P0T9 w (w.alloc (.cells #[.bool false, .int .i64 0, .int .i64 0, .int .i64 0, .bool false, .int .u8 0, .int .u8 0, .int .u8 0, .int .u8 0, .int .u8 0, .int .u8 0, .int .u8 0, .int .u8 0, .int .u8 0, .int .u8 0, .int .u8 0, .int .u8 0, .int .u8 0, .int .u8 0, .int .u8 0, .int .u8 0, .bool false, .int .i64 0, .int .i64 0, .slice none 0 0, .slice none 0 0] 28)) b0 l k bad :=
  ⟨ObjAt.alloc h _, ObjAt.made w #[.bool false, .int .i64 0, .int .i64 0, .int .i64 0, .bool false, .int .u8 0, .int .u8 0, .int .u8 0, .int .u8 0, .int .u8 0, .int .u8 0, .int .u8 0, .int .u8 0, .int .u8 0, .int .u8 0, .int .u8 0, .int .u8 0, .int .u8 0, .int .u8 0, .int .u8 0, .int .u8 0, .bool false, .int .i64 0, .int .i64 0, .slice none 0 0, .slice none 0 0] 28, qof ((Below.refl _ _).alloc (Nat.le_refl _) _), ObjAt.lt h⟩
theorem P0T9.call {w W W' : World} {b0 : Nat} {l l' : List UInt8} {k k' : Nat} {bad bad' : Bool} (h : P0T9 w W b0 l k bad) (hr : RdAt W' b0 l' k' bad') (hg : W.grownBy W' (some b0)) : P0T9 w W' b0 l' k' bad' :=
  ⟨hr, ObjAt.grown h.res hg (by have := h.l0; simp; omega), gtrans h.frm hg, h.l0⟩
theorem P0T9.below {w W W' : World} {b0 : Nat} {l : List UInt8} {k : Nat} {bad : Bool} (h : P0T9 w W b0 l k bad) (hb : Below W.heap.size W W') : P0T9 w W' b0 l k bad := ⟨ObjAt.below h.rd hb (ObjAt.lt h.rd), h.res.below hb h.res.lt, qbelow h.frm (hb.mono h.frm.size), h.l0⟩
theorem P0T9.rep {w W : World} {b0 : Nat} {l : List UInt8} {k : Nat} {bad : Bool} (h : P0T9 w W b0 l k bad) : TI9 w (aggW (W.alloc (.cells #[.bool false, .int .i64 0, .int .i64 0, .int .i64 0, .bool false, .int .u8 0, .int .u8 0, .int .u8 0, .int .u8 0, .int .u8 0, .int .u8 0, .int .u8 0, .int .u8 0, .int .u8 0, .int .u8 0, .int .u8 0, .int .u8 0, .int .u8 0, .int .u8 0, .int .u8 0, .int .u8 0, .bool false, .int .i64 0, .int .i64 0, .slice none 0 0, .slice none 0 0] 28)) W.heap.size (tkC (rep9W []) (.slice none 0 0) (.slice none 0 0))) b0 W.heap.size l k bad (.slice none 0 0) [] := by
  have hm := TM.made (w := W) (t := rep9W []) (Below.refl _ _) zeroA_ok (Ads.nil W) (Rcs.nil W)
  have h2 := h.below hm.blw
  exact ⟨h2.rd, h2.res, hm.tk, ⟨⟨rfl, Or.inl ⟨rfl, rfl⟩⟩, fun x hx => by cases hx⟩, h2.frm, h.res.lt, h2.l0⟩
theorem TI9.done {w W : World} {b0 m : Nat} {l : List UInt8} {k : Nat} {bad : Bool} {ur : Value} {q : List (RC × Value)} (h : TI9 w W b0 m l k bad ur q) :
    row? (aggW W w.heap.size (tkC (rep9W (q.map Prod.fst)) (.slice none 0 0) ur)) w.heap.size 0 26 = some (tkC (rep9W (q.map Prod.fst)) (.slice none 0 0) ur) ∧ RdAt (aggW W w.heap.size (tkC (rep9W (q.map Prod.fst)) (.slice none 0 0) ur)) b0 l k bad ∧ w.grownBy (aggW W w.heap.size (tkC (rep9W (q.map Prod.fst)) (.slice none 0 0) ur)) (some b0) ∧ RcT (aggW W w.heap.size (tkC (rep9W (q.map Prod.fst)) (.slice none 0 0) ur)) ur (q.map Prod.fst) :=
  ⟨aggW_row (obj_free h.res (by simp)) (tkC_length zeroA_ok _ _), aggW_other h.rd _ (by have := h.l0; omega), qbelow h.frm (aggW_below (Below.refl _ _) (by omega) _), ⟨_, q, h.rq.far9 h.res (by decide) (by decide) (aggW_grown _ _ _), rfl⟩⟩
/-- What report tells. -/
def RepV (w W' : World) (b0 : Nat) (s : List UInt8) (x : Ending) : Prop := ∃ (e : Int) (ur : Value) (rcs : List RC), x = .returned (.tuple #[.agg (tkC (rep9W rcs) (.slice none 0 0) ur).toArray, .int .i64 e]) ∧ e = recE9 s ∧ RcT W' ur rcs ∧ w.grownBy W' (some b0) ∧ (e = 0 → rcs = (recL9 s 8 (wd s 6)).1)
/-- One record of a report, plain: what is wrong of it ends all. -/
theorem RS9.bad {s : List UInt8} {n i m : Nat} {acc : List RC} (h : RS9 s n i (m + 1) acc) (he : recQE9 s i ≠ 0) : (recL9 s 8 n).2 = recQE9 s i := by
  unfold recQE9 at he ⊢
  by_cases a1 : s.length < i + 20
  · rw [if_pos a1]; exact RS9.short h a1
  rw [if_neg a1] at he ⊢
  by_cases a2 : srcsE9 s (i + 20) (wd s (i + 2)) = 0
  · rw [if_neg (by rw [a2]; simp)] at he ⊢
    by_cases a3 : s.length < recN9 s i
    · rw [if_pos a3]; exact RS9.ends h a1 a2 a3
    · rw [if_neg a3] at he; exact absurd rfl he
  · rw [if_pos a2]; exact RS9.srcs h a1 a2
theorem RS9.good {s : List UInt8} {n i m : Nat} {acc : List RC} (h : RS9 s n i (m + 1) acc) (he : recQE9 s i = 0) : recN9 s i ≤ s.length ∧ RS9 s n (recN9 s i) m (if rcOk9 (rec9 s i) then acc ++ [rec9 s i] else acc) := by
  unfold recQE9 at he
  by_cases a1 : s.length < i + 20
  · rw [if_pos a1] at he; cases he
  rw [if_neg a1] at he
  by_cases a2 : srcsE9 s (i + 20) (wd s (i + 2)) = 0
  · rw [if_neg (by rw [a2]; simp)] at he
    by_cases a3 : s.length < recN9 s i
    · rw [if_pos a3] at he; cases he
    · exact ⟨by omega, RS9.step h a1 a2 a3⟩
  · rw [if_pos a2] at he; exact absurd he a2
/-- Where the loop stands. -/
def RepI (s : List UInt8) (n j i k : Nat) (q : List (RC × Value)) : Prop := i ≤ s.length ∧ k ≤ i ∧ q.length ≤ j ∧ RS9 s n i (n - j) (q.map Prod.fst)
set_option maxRecDepth 100000 in
set_option maxHeartbeats 4000000 in
theorem m9report_any (w : World) (b0 : Nat) (s : List UInt8) (hs : s.length ≤ 100000) (h8 : 8 ≤ s.length) (h : RdAt w b0 (s.drop 4) 0 false) :
    Calls Tryz.prog 47 #[rp b0] w fun x W' => RepV w W' b0 s x := by
  have H0 := Lib.hid (P0T9.start h)
  have HT : Hid (RTk b0 (s.drop 4) 0 false 2 (s.drop 6) 2 false) := Lib.hid (rtk_good b0 s 4 0 2 (by omega) (by omega) (by omega))
  have HN : Hid (RNum b0 (s.drop 6) 2 false 2 (wd s 6) (s.drop 8) 4 false) := Lib.hid (rnum_good b0 s 6 2 2 (by omega) (by omega) (by omega) (by omega))
  have hw := wd_lt s 6 (by omega)
  have HRC := Lib.hid (fun i k hk hi W h => m9record_any b0 s i k hk hs hi W h)
  obtain ⟨n, hn⟩ : ∃ n, n = wd s 6 := ⟨_, rfl⟩
  rw [← hn] at hw HN
  have HNW := Lib.hid hn
  have hbk : ∀ w0, (aggBuild 28 #[(0, .bool true), (1, .int .i64 2), (2, .int .i64 2)]).run Tryz.prog w0 = .ok (.agg (tkC (rep9W []) (.slice none 0 0) (.slice none 0 0)).toArray) w0 := bldr_tkvk 2 2
  have hfk : fok (tkC (rep9W []) (.slice none 0 0) (.slice none 0 0)).toArray 26 = true := fok_tk zeroA_ok rfl rfl
  have HFK : Hid (∀ (q : List (RC × Value)) (p : Option Addr) (n c : Nat), fok (tkC (rep9W (q.map Prod.fst)) (.slice none 0 0) (.slice p n c)).toArray 26 = true) := Lib.hid fun q p n c => fok_tk zeroA_ok rfl rfl
  have HI0 : Hid (RepI s n 0 8 4 []) := Lib.hid ⟨h8, by omega, by simp, by simpa using RS9.start s n⟩
  clear h hn hs h8
  go_enter Tryz.func47, Tryz.ntmps47
  go_upto_region 1 with (fail)
  generalize w.alloc (.cells #[.bool false, .int .i64 0, .int .i64 0, .int .i64 0, .bool false, .int .u8 0, .int .u8 0, .int .u8 0, .int .u8 0, .int .u8 0, .int .u8 0, .int .u8 0, .int .u8 0, .int .u8 0, .int .u8 0, .int .u8 0, .int .u8 0, .int .u8 0, .int .u8 0, .int .u8 0, .int .u8 0, .bool false, .int .i64 0, .int .i64 0, .slice none 0 0, .slice none 0 0] 28) = W at H0 ⊢
  have hfm := hfm26 W
  have H1 := Lib.hid (H0.out.rep)
  go_upto_region 2 with (fail)
  generalize aggW (W.alloc (.cells #[.bool false, .int .i64 0, .int .i64 0, .int .i64 0, .bool false, .int .u8 0, .int .u8 0, .int .u8 0, .int .u8 0, .int .u8 0, .int .u8 0, .int .u8 0, .int .u8 0, .int .u8 0, .int .u8 0, .int .u8 0, .int .u8 0, .int .u8 0, .int .u8 0, .int .u8 0, .int .u8 0, .bool false, .int .i64 0, .int .i64 0, .slice none 0 0, .slice none 0 0] 28)) W.heap.size _ = W1 at H1 ⊢
  generalize W.heap.size = m at H1 ⊢
  clear hfm hfk hbk H0
  go_upto_region 3 with (go_at_call 82; (with_reducible refine (HT.out _ H1.out.rd).mono ?_); rintro x w2 ⟨⟨tt, rfl⟩, h9, k9⟩; have H2 := Lib.hid (H1.out.call h9 k9); clear h9 k9)
  by_cases hl : 64 < n
  · have t1 : decide ((64 : Int) < (n : Int)) = true := decide_eq_true (by omega)
    have t1n : decide (64 < n) = true := decide_eq_true hl
    have HE := Lib.hid (show (6 : Int) = recE9 s by unfold recE9; rw [← HNW.out, if_pos hl])
    go_upto_region 4 with (go_at_call 81; (with_reducible refine (HN.out _ H2.out.rd).mono ?_); rintro x w3 ⟨rfl, h9, k9⟩; have H3 := Lib.hid (H2.out.call h9 k9); clear h9 k9)
    obtain ⟨k2, k3, k4, k5⟩ := H3.out.c
    simp only [List.map_nil] at k4
    have hfk : fok (tkC (rep9W []) (.slice none 0 0) (.slice none 0 0)).toArray 26 = true := HFK.out [] none 0 0
    repeat (first | go_values | go_skip | go_guarded | go_step | go_upon | go_in)
    obtain ⟨q1, q2, q3, q4⟩ := H3.out.done
    exact bodyPost_ret (results_cell2 Tryz.results47 rfl (ld_some q1 (ldr_tk _ _ _))) rfl ⟨6, _, _, rfl, HE.out, q4, q3, fun h => by cases h⟩
  · have t1 : ¬ (64 : Int) < (n : Int) := by omega
    have hn64 : n ≤ 64 := by omega
    have HX := Lib.hid (show recE9 s = (recL9 s 8 n).2 by unfold recE9; rw [← HNW.out, if_neg hl])
    obtain ⟨i0, hi0, hz0, hz1, hz2⟩ := info_parts info_rec
    have hfmr : ∀ W : World, free? (W.alloc (.cells #[.int .i64 0, .bool false, .int .u8 0, .int .u8 0, .int .u8 0, .int .u8 0, .int .u8 0, .int .u8 0, .int .u8 0, .int .u8 0, .int .u8 0, .int .u8 0, .int .u8 0, .int .u8 0, .int .u8 0, .int .u8 0, .int .u8 0, .int .u8 0, .slice none 0 0] 62)) W.heap.size 0 19 = true := fun W => free_made W _ _ 19 (by simp)
    have HF : Hid (∀ (r : RC) (u : Value), adOk r.g → u.oneCell' = true → fok (rcC r u).toArray 19 = true) := Lib.hid fun r u h1 h2 => fok_rec h1 h2
    clear hl
    go_wp2_with (go_at_call 81; (with_reducible refine (HN.out _ H2.out.rd).mono ?_); rintro x w3 ⟨rfl, h9, k9⟩; have H3 := Lib.hid (H2.out.call h9 k9); clear h9 k9)
    go_loopw [17] (fun c wr => ∃ (j i k : Nat) (ur : Value) (q : List (RC × Value)), j ≤ n ∧ c = .int .i64 j ∧ Hid (RepI s n j i k q) ∧ Hid (TI9 w wr b0 m (s.drop i) k false ur q)) (fun c _ => n - (intOf c).toNat)
    case atStart => exact ⟨0, 8, 4, _, [], by omega, rfl, HI0, H3⟩
    case round =>
      obtain ⟨j, i, k, ur, q, hj, rfl, HI, HS⟩ := hrel
      obtain ⟨pu, cu, eur⟩ := own_slice9 HS.out.rq.1
      subst eur
      by_cases hlt : j < n
      · have hk1 : (j : Int) < (n : Int) := by omega
        have hw1 : IntKind.i64.wrap ((j : Int) + 1) = (j : Int) + 1 := by simp only [IntKind.wrap_i64]; omega
        have HRS : Hid (RS9 s n i ((n - (j + 1)) + 1) (q.map Prod.fst)) := Lib.hid (by
          have := HI.out.2.2.2
          rw [show n - j = n - (j + 1) + 1 by omega] at this
          exact this)
        have HQL := Lib.hid HI.out.2.2.1
        have HR := Lib.hid (fun W h => HRC.out i k HI.out.2.1 HI.out.1 W h)
        go_upto_region 9 with (go_at_call 86; (with_reducible refine (HR.out _ HS.out.rd).mono ?_); rintro x w4 ⟨r, u, e, l1, kk1, b1, rfl, he, ho, hv, hrd, hgr, h0⟩; obtain ⟨pv, cv, hvv, _, _⟩ := hv.1.len; subst hvv; have hfr := HF.out r (.slice pv r.src.length cv) ho rfl; have G1 := Lib.hid (HS.out.call hrd hgr); have HV1 := Lib.hid hv; have HE := Lib.hid he; have HO := Lib.hid ho; have HZ := Lib.hid h0; clear hrd hgr hv he ho h0)
        have HBX : Hid (ObjAt (aggW (w4.alloc (.cells #[.int .i64 0, .bool false, .int .u8 0, .int .u8 0, .int .u8 0, .int .u8 0, .int .u8 0, .int .u8 0, .int .u8 0, .int .u8 0, .int .u8 0, .int .u8 0, .int .u8 0, .int .u8 0, .int .u8 0, .int .u8 0, .int .u8 0, .int .u8 0, .slice none 0 0] 62)) w4.heap.size (rcC r (.slice pv r.src.length cv))) w4.heap.size (rcC r (.slice pv r.src.length cv)).toArray 62 ∧ Below w4.heap.size w4 (aggW (w4.alloc (.cells #[.int .i64 0, .bool false, .int .u8 0, .int .u8 0, .int .u8 0, .int .u8 0, .int .u8 0, .int .u8 0, .int .u8 0, .int .u8 0, .int .u8 0, .int .u8 0, .int .u8 0, .int .u8 0, .int .u8 0, .int .u8 0, .int .u8 0, .int .u8 0, .slice none 0 0] 62)) w4.heap.size (rcC r (.slice pv r.src.length cv)))) := Lib.hid ⟨aggW_obj (L := (#[.int .i64 0, .bool false, .int .u8 0, .int .u8 0, .int .u8 0, .int .u8 0, .int .u8 0, .int .u8 0, .int .u8 0, .int .u8 0, .int .u8 0, .int .u8 0, .int .u8 0, .int .u8 0, .int .u8 0, .int .u8 0, .int .u8 0, .int .u8 0, .slice none 0 0] : Array Value).toList) (by simpa using ObjAt.made w4 #[.int .i64 0, .bool false, .int .u8 0, .int .u8 0, .int .u8 0, .int .u8 0, .int .u8 0, .int .u8 0, .int .u8 0, .int .u8 0, .int .u8 0, .int .u8 0, .int .u8 0, .int .u8 0, .int .u8 0, .int .u8 0, .int .u8 0, .int .u8 0, .slice none 0 0] 62) (by rw [rcC_length HO.out]; rfl) (rcC_one rfl), aggW_below ((Below.refl _ _).alloc (Nat.le_refl _) _) (Nat.le_refl _) _⟩
        generalize aggW (w4.alloc (.cells #[.int .i64 0, .bool false, .int .u8 0, .int .u8 0, .int .u8 0, .int .u8 0, .int .u8 0, .int .u8 0, .int .u8 0, .int .u8 0, .int .u8 0, .int .u8 0, .int .u8 0, .int .u8 0, .int .u8 0, .int .u8 0, .int .u8 0, .int .u8 0, .slice none 0 0] 62)) w4.heap.size _ = W2 at HBX ⊢
        have G2 := Lib.hid (G1.out.below HBX.out.2)
        have HV2 := Lib.hid (HV1.out.below HBX.out.2)
        have HVA := Lib.hid HV2.out.1
        have HX2 := Lib.hid HBX.out.1
        generalize w4.heap.size = xb at HX2 ⊢
        clear hfr HBX G1 HV1
        obtain ⟨k2, k3, k4, k5⟩ := G2.out.c
        have HROW : Hid (∀ W, ObjAt W xb (rcC r (.slice pv r.src.length cv)).toArray 62 → row? W xb 0 19 = some (rcC r (.slice pv r.src.length cv))) := Lib.hid fun W hW => obj_rowk (A := []) (M := rcC r (.slice pv r.src.length cv)) (C := []) (by simpa using hW) rfl (rcC_length HO.out _)
        have hrow := HROW.out _ HX2.out
        by_cases hez : e = 0
        · obtain ⟨z1, z2, z3, z4⟩ := HZ.out hez
          have te : (e != 0) = false := by simp [hez]
          have HGD := Lib.hid (HRS.out.good (by rw [← HE.out]; exact hez))
          have HZ1 := Lib.hid z1
          have HZ3 := Lib.hid z3
          subst z2 z4
          clear z1 z3 hez
          have HGR : Hid (∀ W, Ads W (.slice pv r.src.length cv) r.src → Calls Tryz.prog 72 #[.agg (rcC r (.slice pv r.src.length cv)).toArray] W fun x w' => x = .returned (.bool (rcOk9 r)) ∧ Below W.heap.size W w') := Lib.hid fun W ha => record9_any r (.slice pv r.src.length cv) W HO.out ha
          cases hok : rcOk9 r with
          | false =>
            rw [hok] at HGR
            have HOK := Lib.hid hok
            clear hok
            go_wp2_with (go_at_call 72; (with_reducible refine (HGR.out _ HVA.out).mono ?_); rintro x w5 ⟨rfl, h9⟩; have G3 := Lib.hid (G2.out.below h9); clear h9)
            go_roundw
            case rel =>
              refine ⟨j + 1, recN9 s i, kk1, _, q, by omega, by go_num, Lib.hid ⟨HGD.out.1, HZ3.out, by have := HQL.out; omega, ?_⟩, G3⟩
              have := HGD.out.2
              rw [← HZ1.out, HOK.out] at this
              exact this
            case measure => simp [intOf]; omega
          | true =>
            rw [hok] at HGR
            have HOK := Lib.hid hok
            have hlit := rcsLit_run r HO.out pv r.src.length cv
            have hl19 := rcC_length (r := r) HO.out (.slice pv r.src.length cv)
            have h1c : ∀ u ∈ rcC r (.slice pv r.src.length cv), u.oneCell' = true := rcC_one rfl
            clear hok
            go_upto_region 13 with (first
              | (go_at_call 72; (with_reducible refine (HGR.out _ HVA.out).mono ?_); rintro x w5 ⟨rfl, h9⟩; have G3 := Lib.hid (G2.out.below h9); have HV3 := Lib.hid (HV2.out.below h9); have hrow3 := HROW.out _ (HX2.out.below h9 HX2.out.lt); clear h9 k2 k3 k4 k5 hrow; obtain ⟨k2, k3, k4, k5⟩ := G3.out.c; have hba := (Below.refl w5.heap.size w5).alloc (Nat.le_refl _) (.cells (rcC r (.slice pv r.src.length cv)).toArray 62); have G4 := Lib.hid (G3.out.below hba); have HV4 := Lib.hid (HV3.out.below hba); have hown := G4.out.rq.1; have hz := G4.out.frm.size; clear hba)
              | (at_builtin; refine wpList_append_own _ rfl _ _ 26 rfl w.heap.size 62 i0 (.agg #[.int .i64 0, .bool false, .int .u8 0, .int .u8 0, .int .u8 0, .int .u8 0, .int .u8 0, .int .u8 0, .int .u8 0, .int .u8 0, .int .u8 0, .int .u8 0, .int .u8 0, .int .u8 0, .int .u8 0, .int .u8 0, .int .u8 0, .int .u8 0, .slice none 0 0]) 19 56 Tryz.underlying26 hi0 hz0 hz1 hz2 rfl (by decide) _ _ _ rfl hown ⟨w5.heap.size, 0, none⟩ 1 1 (rcC r (.slice pv r.src.length cv)) rfl hl19 (World.news_of_block (heap_alloc_new w5 _)) h1c (by have := HQL.out; unfold maxLen; omega) (by have := HQL.out; omega) (by simpa using hz) ?_; intro v' w6 hown' hgrow hnil; obtain ⟨pw, cw, ew⟩ := own_slice9 hown'; subst ew; have HHX := G4.out.app ⟨HO.out, HV4.out.1, HV4.out.2⟩ hown' hgrow; have G5 := Lib.hid HHX.1; obtain ⟨kc, kf⟩ := HHX.2; clear HHX hown' hgrow hnil hown hz hl19 h1c))
            generalize World.setCell w6 _ _ = w7 at G5 ⊢
            go_wp2
            go_roundw
            case rel =>
              refine ⟨j + 1, recN9 s i, kk1, _, q ++ [(r, .slice pv r.src.length cv)], by omega, by go_num, Lib.hid ⟨HGD.out.1, HZ3.out, by have := HQL.out; simp; omega, ?_⟩, G5⟩
              have := HGD.out.2
              rw [← HZ1.out, HOK.out] at this
              rw [List.map_append]
              exact this
            case measure => simp [intOf]; omega
        · have te : (e != 0) = true := by simpa using hez
          have HEE := Lib.hid (show e = recE9 s by rw [HX.out, HE.out]; exact (HRS.out.bad (by rw [← HE.out]; exact hez)).symm)
          have HNE := Lib.hid hez
          have hfk := HFK.out q pu q.length cu
          clear hez
          repeat (first | go_values | go_skip | go_guarded | go_step | go_upon | go_in)
          obtain ⟨q1, q2, q3, q4⟩ := G2.out.done
          exact bodyPost_ret (results_cell2 Tryz.results47 rfl (ld_some q1 (ldr_tk _ _ _))) rfl ⟨e, _, _, rfl, HEE.out, q4, q3, fun h => absurd h HNE.out⟩
      · have hk1 : ¬ (j : Int) < (n : Int) := by omega
        have hjn : j = n := by omega
        have HD := Lib.hid (show recL9 s 8 n = (q.map Prod.fst, 0) from RS9.done (i := i) (by
          have := HI.out.2.2.2
          rw [hjn, Nat.sub_self] at this
          exact this))
        clear hjn
        obtain ⟨k2, k3, k4, k5⟩ := HS.out.c
        have hfk := HFK.out q pu q.length cu
        repeat (first | go_values | go_skip | go_guarded | go_step | go_upon | go_in)
        obtain ⟨q1, q2, q3, q4⟩ := HS.out.done
        exact bodyPost_ret (results_cell2 Tryz.results47 rfl (ld_some q1 (ldr_tk _ _ _))) rfl ⟨0, _, _, rfl, by rw [HX.out, HD.out], q4, q3, fun _ => by rw [← HNW.out, HD.out]⟩
end Go.Proofs.YtgpccgcppbdlpaaGreat
