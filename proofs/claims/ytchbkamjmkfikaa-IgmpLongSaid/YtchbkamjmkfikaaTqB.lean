/-
  The document's own Read of layer 8.
-/
import Derived.Test.YtchbkamjmkfikaaTqA
import Derived.Test.YtchbkamjmkfikaaTrA
namespace Go.Proofs.Ytchbkamjmkfikaa
open Go.RowKit
set_option linter.unusedVariables false
set_option linter.unusedSimpArgs false
attribute [local go_sem ↓] ld_addr st_addr bld_addr ld_tk st_tk bld_tk
attribute [local go_sem] ldr_addr str_addr ldr_tk str_tk

theorem qry_or (s : List UInt8) : (qry s).2 = 0 ∨ (qry s).1 = zeroT := by
  unfold qry
  repeat' split
  all_goals first | exact Or.inl rfl | exact Or.inr rfl
theorem qry_bad (s : List UInt8) (h : (qry s).2 ≠ 0) : qry s = (zeroT, (qry s).2) := by
  rcases qry_or s with h1 | h1
  · exact absurd h1 h
  · exact Prod.ext h1 rfl
/-- The result's cell and the zero talk. -/
structure QN (w W : World) (p : Nat) : Prop where
  res : ObjAt W w.heap.size #[.bool false, .int .i64 0, .int .i64 0, .int .i64 0, .bool false, .int .u8 0, .int .u8 0, .int .u8 0, .int .u8 0, .int .u8 0, .int .u8 0, .int .u8 0, .int .u8 0, .int .u8 0, .int .u8 0, .int .u8 0, .int .u8 0, .int .u8 0, .int .u8 0, .int .u8 0, .int .u8 0, .bool false, .int .i64 0, .int .i64 0, .slice none 0 0, .slice none 0 0] 29
  zer : ObjAt W p (tkC zeroT (.slice none 0 0) (.slice none 0 0)).toArray 29
  blw : Below w.heap.size w W
  ltp : w.heap.size < p
theorem QN.start (w : World) : QN w (aggW ((w.alloc (.cells #[.bool false, .int .i64 0, .int .i64 0, .int .i64 0, .bool false, .int .u8 0, .int .u8 0, .int .u8 0, .int .u8 0, .int .u8 0, .int .u8 0, .int .u8 0, .int .u8 0, .int .u8 0, .int .u8 0, .int .u8 0, .int .u8 0, .int .u8 0, .int .u8 0, .int .u8 0, .int .u8 0, .bool false, .int .i64 0, .int .i64 0, .slice none 0 0, .slice none 0 0] 29)).alloc (.cells #[.bool false, .int .i64 0, .int .i64 0, .int .i64 0, .bool false, .int .u8 0, .int .u8 0, .int .u8 0, .int .u8 0, .int .u8 0, .int .u8 0, .int .u8 0, .int .u8 0, .int .u8 0, .int .u8 0, .int .u8 0, .int .u8 0, .int .u8 0, .int .u8 0, .int .u8 0, .int .u8 0, .bool false, .int .i64 0, .int .i64 0, .slice none 0 0, .slice none 0 0] 29)) (w.heap.size + 1) (tkC zeroT (.slice none 0 0) (.slice none 0 0))) (w.heap.size + 1) := by
  have s1 : (w.alloc (.cells #[.bool false, .int .i64 0, .int .i64 0, .int .i64 0, .bool false, .int .u8 0, .int .u8 0, .int .u8 0, .int .u8 0, .int .u8 0, .int .u8 0, .int .u8 0, .int .u8 0, .int .u8 0, .int .u8 0, .int .u8 0, .int .u8 0, .int .u8 0, .int .u8 0, .int .u8 0, .int .u8 0, .bool false, .int .i64 0, .int .i64 0, .slice none 0 0, .slice none 0 0] 29)).heap.size = w.heap.size + 1 := by simp
  have h1 := ObjAt.made (w.alloc (.cells #[.bool false, .int .i64 0, .int .i64 0, .int .i64 0, .bool false, .int .u8 0, .int .u8 0, .int .u8 0, .int .u8 0, .int .u8 0, .int .u8 0, .int .u8 0, .int .u8 0, .int .u8 0, .int .u8 0, .int .u8 0, .int .u8 0, .int .u8 0, .int .u8 0, .int .u8 0, .int .u8 0, .bool false, .int .i64 0, .int .i64 0, .slice none 0 0, .slice none 0 0] 29)) #[.bool false, .int .i64 0, .int .i64 0, .int .i64 0, .bool false, .int .u8 0, .int .u8 0, .int .u8 0, .int .u8 0, .int .u8 0, .int .u8 0, .int .u8 0, .int .u8 0, .int .u8 0, .int .u8 0, .int .u8 0, .int .u8 0, .int .u8 0, .int .u8 0, .int .u8 0, .int .u8 0, .bool false, .int .i64 0, .int .i64 0, .slice none 0 0, .slice none 0 0] 29
  rw [s1] at h1
  exact ⟨aggW_other (ObjAt.alloc (ObjAt.made w _ _) _) _ (by omega), aggW_obj (L := (#[.bool false, .int .i64 0, .int .i64 0, .int .i64 0, .bool false, .int .u8 0, .int .u8 0, .int .u8 0, .int .u8 0, .int .u8 0, .int .u8 0, .int .u8 0, .int .u8 0, .int .u8 0, .int .u8 0, .int .u8 0, .int .u8 0, .int .u8 0, .int .u8 0, .int .u8 0, .int .u8 0, .bool false, .int .i64 0, .int .i64 0, .slice none 0 0, .slice none 0 0] : Array Value).toList) (by simpa using h1) rfl (tkC_one rfl rfl), aggW_below (((Below.refl _ _).alloc (Nat.le_refl _) _).alloc (by simp) _) (by omega) _, by omega⟩
theorem QN.below {w W W' : World} {p : Nat} (h : QN w W p) (hb : Below W.heap.size W W') : QN w W' p := ⟨h.res.below hb h.res.lt, h.zer.below hb h.zer.lt, bstep h.blw hb, h.ltp⟩
theorem QN.free {w W : World} {p : Nat} (h : QN w W p) : free? W w.heap.size 0 26 = true := obj_free h.res (by simp)
theorem QN.row {w W : World} {p : Nat} (h : QN w W p) : row? W p 0 26 = some (tkC zeroT (.slice none 0 0) (.slice none 0 0)) := obj_rowk (A := []) (M := tkC zeroT (.slice none 0 0) (.slice none 0 0)) (C := []) (by simpa using h.zer) rfl rfl
/-- What Read tells. -/
def ReadP (w : World) (s : List UInt8) (x : Ending) (w' : World) : Prop := ∃ us ur, x = .returned (.tuple #[.agg (tkC (readT s).1 us ur).toArray, .int .i64 (readT s).2]) ∧ Below w.heap.size w w' ∧ adOk (readT s).1.g ∧ AdsT w' us (readT s).1.src ∧ RcT w' ur (readT s).1.rcs
theorem QN.ret {w W : World} {p : Nat} (h : QN w W p) {s : List UInt8} {e : Int} (he : readT s = (zeroT, e)) :
    row? (aggW W w.heap.size (tkC zeroT (.slice none 0 0) (.slice none 0 0))) w.heap.size 0 26 = some (tkC zeroT (.slice none 0 0) (.slice none 0 0)) ∧ ReadP w s (.returned (.tuple #[.agg (tkC zeroT (.slice none 0 0) (.slice none 0 0)).toArray, .int .i64 e])) (aggW W w.heap.size (tkC zeroT (.slice none 0 0) (.slice none 0 0))) := by
  refine ⟨aggW_row h.free (tkC_length (t := zeroT) zeroA_ok _ _), _, _, by rw [he], aggW_below h.blw (Nat.le_refl _) _, by rw [he]; exact zeroA_ok, by rw [he]; exact AdsT.nil _, by rw [he]; exact RcT.nil _⟩
/-- The talk boxed. -/
theorem QN.talk {w W : World} {p : Nat} (h : QN w W p) : QT w (aggW (W.alloc (.cells #[.bool false, .int .i64 0, .int .i64 0, .int .i64 0, .bool false, .int .u8 0, .int .u8 0, .int .u8 0, .int .u8 0, .int .u8 0, .int .u8 0, .int .u8 0, .int .u8 0, .int .u8 0, .int .u8 0, .int .u8 0, .int .u8 0, .int .u8 0, .int .u8 0, .int .u8 0, .int .u8 0, .bool false, .int .i64 0, .int .i64 0, .slice none 0 0, .slice none 0 0] 29)) W.heap.size (tkC zeroT (.slice none 0 0) (.slice none 0 0))) W.heap.size zeroT (.slice none 0 0) (.slice none 0 0) p (tkC zeroT (.slice none 0 0) (.slice none 0 0)).toArray 29 := by
  have h1 := h.zer.lt
  have h2 := h.res.lt
  have hm := ObjAt.made W #[.bool false, .int .i64 0, .int .i64 0, .int .i64 0, .bool false, .int .u8 0, .int .u8 0, .int .u8 0, .int .u8 0, .int .u8 0, .int .u8 0, .int .u8 0, .int .u8 0, .int .u8 0, .int .u8 0, .int .u8 0, .int .u8 0, .int .u8 0, .int .u8 0, .int .u8 0, .int .u8 0, .bool false, .int .i64 0, .int .i64 0, .slice none 0 0, .slice none 0 0] 29
  exact ⟨aggW_other (h.res.alloc _) _ (by omega), ⟨aggW_obj (L := (#[.bool false, .int .i64 0, .int .i64 0, .int .i64 0, .bool false, .int .u8 0, .int .u8 0, .int .u8 0, .int .u8 0, .int .u8 0, .int .u8 0, .int .u8 0, .int .u8 0, .int .u8 0, .int .u8 0, .int .u8 0, .int .u8 0, .int .u8 0, .int .u8 0, .int .u8 0, .int .u8 0, .bool false, .int .i64 0, .int .i64 0, .slice none 0 0, .slice none 0 0] : Array Value).toList) (by simpa using hm) rfl (tkC_one rfl rfl), zeroA_ok⟩, aggW_below (h.blw.alloc (by omega) _) (by omega) _, h2, AdsT.nil _, RcT.nil _, aggW_other (h.zer.alloc _) _ (by omega), h.ltp, by omega⟩
theorem QT.n {w W : World} {m p : Nat} {t : TK} {us ur : Value} (h : QT w W m t us ur p (tkC zeroT (.slice none 0 0) (.slice none 0 0)).toArray 29) : QN w W p := ⟨h.res, h.more, h.blw, h.ltp⟩
theorem QT.retR {w W : World} {m p : Nat} {t : TK} {us ur : Value} {L : Array Value} {T : TypeId} (h : QT w W m t us ur p L T) {s : List UInt8} (he : readT s = (t, 0)) :
    row? (aggW W w.heap.size (tkC t us ur)) w.heap.size 0 26 = some (tkC t us ur) ∧ ReadP w s (.returned (.tuple #[.agg (tkC t us ur).toArray, .int .i64 0])) (aggW W w.heap.size (tkC t us ur)) := by
  obtain ⟨q1, q2, q3, q4⟩ := h.done
  refine ⟨q1, us, ur, by rw [he], q2, by rw [he]; exact h.tk.2, by rw [he]; exact q3, by rw [he]; exact q4⟩

theorem QT.nput {w W : World} {m p : Nat} {t : TK} {us ur : Value} (h : QT w W m t us ur p (tkC zeroT (.slice none 0 0) (.slice none 0 0)).toArray 29) (cs : List Value) : QN w (aggW W m cs) p := by
  have := h.lt
  exact ⟨aggW_other h.res _ (by omega), aggW_other h.more _ h.ne.symm, aggW_below h.blw (by omega) _, h.ltp⟩
theorem QT.nset {w W : World} {m p : Nat} {t : TK} {us ur : Value} (h : QT w W m t us ur p (tkC zeroT (.slice none 0 0) (.slice none 0 0)).toArray 29) (j : Nat) (v : Value) : QN w (W.setCell ⟨m, j, none⟩ v) p := by
  have := h.lt
  exact ⟨h.res.other _ _ (by simp; omega), h.more.other _ _ (by simpa using h.ne.symm), h.blw.setCell (p := ⟨m, j, none⟩) (by simp; omega) v, h.ltp⟩


set_option maxRecDepth 100000 in
set_option maxHeartbeats 4000000 in
theorem rread8_short (s : List UInt8) (hs : s.length ≤ 100000) (h8 : s.length < 8) (w : World) :
    Calls Try.prog 7 #[.string (Str s)] w fun x w' => ReadP w s x w' := by
  have HR := Lib.hid (show readT s = (zeroT, 3) by unfold readT; rw [if_pos h8])
  have hd : (s.length : Int) < 8 := by omega
  clear h8
  have hsz := Str_size s
  have H0 := Lib.hid (QN.start w)
  have hbz := bldr_tk0
  have hfz : fok (tkC zeroT (.slice none 0 0) (.slice none 0 0)).toArray 26 = true := fok_tk zeroA_ok rfl rfl
  have hfm := free_made (w.alloc (.cells #[.bool false, .int .i64 0, .int .i64 0, .int .i64 0, .bool false, .int .u8 0, .int .u8 0, .int .u8 0, .int .u8 0, .int .u8 0, .int .u8 0, .int .u8 0, .int .u8 0, .int .u8 0, .int .u8 0, .int .u8 0, .int .u8 0, .int .u8 0, .int .u8 0, .int .u8 0, .int .u8 0, .bool false, .int .i64 0, .int .i64 0, .slice none 0 0, .slice none 0 0] 29)) #[.bool false, .int .i64 0, .int .i64 0, .int .i64 0, .bool false, .int .u8 0, .int .u8 0, .int .u8 0, .int .u8 0, .int .u8 0, .int .u8 0, .int .u8 0, .int .u8 0, .int .u8 0, .int .u8 0, .int .u8 0, .int .u8 0, .int .u8 0, .int .u8 0, .int .u8 0, .int .u8 0, .bool false, .int .i64 0, .int .i64 0, .slice none 0 0, .slice none 0 0] 29 26 (by simp)
  rw [show (w.alloc (.cells #[.bool false, .int .i64 0, .int .i64 0, .int .i64 0, .bool false, .int .u8 0, .int .u8 0, .int .u8 0, .int .u8 0, .int .u8 0, .int .u8 0, .int .u8 0, .int .u8 0, .int .u8 0, .int .u8 0, .int .u8 0, .int .u8 0, .int .u8 0, .int .u8 0, .int .u8 0, .int .u8 0, .bool false, .int .i64 0, .int .i64 0, .slice none 0 0, .slice none 0 0] 29)).heap.size = w.heap.size + 1 by simp] at hfm
  go_enter Try.func7, Try.ntmps7
  go_upto_region 2 with (fail)
  generalize aggW ((w.alloc (.cells #[.bool false, .int .i64 0, .int .i64 0, .int .i64 0, .bool false, .int .u8 0, .int .u8 0, .int .u8 0, .int .u8 0, .int .u8 0, .int .u8 0, .int .u8 0, .int .u8 0, .int .u8 0, .int .u8 0, .int .u8 0, .int .u8 0, .int .u8 0, .int .u8 0, .int .u8 0, .int .u8 0, .bool false, .int .i64 0, .int .i64 0, .slice none 0 0, .slice none 0 0] 29)).alloc (.cells #[.bool false, .int .i64 0, .int .i64 0, .int .i64 0, .bool false, .int .u8 0, .int .u8 0, .int .u8 0, .int .u8 0, .int .u8 0, .int .u8 0, .int .u8 0, .int .u8 0, .int .u8 0, .int .u8 0, .int .u8 0, .int .u8 0, .int .u8 0, .int .u8 0, .int .u8 0, .int .u8 0, .bool false, .int .i64 0, .int .i64 0, .slice none 0 0, .slice none 0 0] 29)) (w.heap.size + 1) _ = W at H0 ⊢
  generalize w.heap.size + 1 = p at H0 ⊢
  clear hbz hfm
  have rz := H0.out.row
  have fz := H0.out.free
  go_upto_region 3 with (fail)
  repeat (first | go_values | go_skip | go_guarded | go_step | go_upon | go_in)
  obtain ⟨qr1, qr2⟩ := H0.out.ret (s := s) (e := 3) (HR.out)
  exact bodyPost_ret (results_cell2 Try.results7 rfl (ld_some qr1 (ldr_tk _ _ _))) rfl qr2


set_option maxRecDepth 100000 in
set_option maxHeartbeats 4000000 in
theorem rread8_sum (s : List UInt8) (hs : s.length ≤ 100000) (h8 : ¬ s.length < 8) (hc : foldN (wsum s) ≠ 65535) (w : World) :
    Calls Try.prog 7 #[.string (Str s)] w fun x w' => ReadP w s x w' := by
  have HR := Lib.hid (show readT s = (zeroT, 4) by unfold readT; rw [if_neg h8, if_pos hc])
  have hd : ¬ (s.length : Int) < 8 := by omega
  have HSUM : Hid (∀ W, Calls Try.prog 20 #[.string (Str s)] W fun e w' => e = .returned (.int .i64 (foldN (wsum s))) ∧ w' = W) := Lib.hid fun W => (rsum_any s (by omega) W).mono fun _ _ h => ⟨h.1, h.2.symm⟩
  have hq : (((foldN (wsum s) : Nat) : Int) != 65535) = true := by rw [bne_iff_ne]; omega
  generalize foldN (wsum s) = f at *
  clear hc
  have hsz := Str_size s
  have H0 := Lib.hid (QN.start w)
  have hbz := bldr_tk0
  have hfz : fok (tkC zeroT (.slice none 0 0) (.slice none 0 0)).toArray 26 = true := fok_tk zeroA_ok rfl rfl
  have hfm := free_made (w.alloc (.cells #[.bool false, .int .i64 0, .int .i64 0, .int .i64 0, .bool false, .int .u8 0, .int .u8 0, .int .u8 0, .int .u8 0, .int .u8 0, .int .u8 0, .int .u8 0, .int .u8 0, .int .u8 0, .int .u8 0, .int .u8 0, .int .u8 0, .int .u8 0, .int .u8 0, .int .u8 0, .int .u8 0, .bool false, .int .i64 0, .int .i64 0, .slice none 0 0, .slice none 0 0] 29)) #[.bool false, .int .i64 0, .int .i64 0, .int .i64 0, .bool false, .int .u8 0, .int .u8 0, .int .u8 0, .int .u8 0, .int .u8 0, .int .u8 0, .int .u8 0, .int .u8 0, .int .u8 0, .int .u8 0, .int .u8 0, .int .u8 0, .int .u8 0, .int .u8 0, .int .u8 0, .int .u8 0, .bool false, .int .i64 0, .int .i64 0, .slice none 0 0, .slice none 0 0] 29 26 (by simp)
  rw [show (w.alloc (.cells #[.bool false, .int .i64 0, .int .i64 0, .int .i64 0, .bool false, .int .u8 0, .int .u8 0, .int .u8 0, .int .u8 0, .int .u8 0, .int .u8 0, .int .u8 0, .int .u8 0, .int .u8 0, .int .u8 0, .int .u8 0, .int .u8 0, .int .u8 0, .int .u8 0, .int .u8 0, .int .u8 0, .bool false, .int .i64 0, .int .i64 0, .slice none 0 0, .slice none 0 0] 29)).heap.size = w.heap.size + 1 by simp] at hfm
  go_enter Try.func7, Try.ntmps7
  go_upto_region 2 with (fail)
  generalize aggW ((w.alloc (.cells #[.bool false, .int .i64 0, .int .i64 0, .int .i64 0, .bool false, .int .u8 0, .int .u8 0, .int .u8 0, .int .u8 0, .int .u8 0, .int .u8 0, .int .u8 0, .int .u8 0, .int .u8 0, .int .u8 0, .int .u8 0, .int .u8 0, .int .u8 0, .int .u8 0, .int .u8 0, .int .u8 0, .bool false, .int .i64 0, .int .i64 0, .slice none 0 0, .slice none 0 0] 29)).alloc (.cells #[.bool false, .int .i64 0, .int .i64 0, .int .i64 0, .bool false, .int .u8 0, .int .u8 0, .int .u8 0, .int .u8 0, .int .u8 0, .int .u8 0, .int .u8 0, .int .u8 0, .int .u8 0, .int .u8 0, .int .u8 0, .int .u8 0, .int .u8 0, .int .u8 0, .int .u8 0, .int .u8 0, .bool false, .int .i64 0, .int .i64 0, .slice none 0 0, .slice none 0 0] 29)) (w.heap.size + 1) _ = W at H0 ⊢
  generalize w.heap.size + 1 = p at H0 ⊢
  clear hbz hfm
  have rz := H0.out.row
  have fz := H0.out.free
  go_upto_region 5 with (go_at_call 20; (with_reducible refine (HSUM.out _).mono ?_); rintro x w5 ⟨rfl, hw5⟩; subst hw5)
  repeat (first | go_values | go_skip | go_guarded | go_step | go_upon | go_in)
  obtain ⟨qr1, qr2⟩ := H0.out.ret (s := s) (e := 4) (HR.out)
  exact bodyPost_ret (results_cell2 Try.results7 rfl (ld_some qr1 (ldr_tk _ _ _))) rfl qr2


set_option maxRecDepth 100000 in
set_option maxHeartbeats 4000000 in
theorem rread8_other (s : List UInt8) (hs : s.length ≤ 100000) (h8 : ¬ s.length < 8) (hc : foldN (wsum s) = 65535) (h1 : by8 s 0 ≠ 17) (h2 : by8 s 0 ≠ 34) (h3 : by8 s 0 ≠ 18) (h4 : by8 s 0 ≠ 22) (h5 : by8 s 0 ≠ 23) (w : World) :
    Calls Try.prog 7 #[.string (Str s)] w fun x w' => ReadP w s x w' := by
  have HR := Lib.hid (show readT s = (zeroT, 5) by unfold readT; rw [if_neg h8, if_neg (by omega), if_neg h1, if_neg h2, if_neg (by omega)])
  have hd : ¬ (s.length : Int) < 8 := by omega
  have HSUM : Hid (∀ W, Calls Try.prog 20 #[.string (Str s)] W fun e w' => e = .returned (.int .i64 (foldN (wsum s))) ∧ w' = W) := Lib.hid fun W => (rsum_any s (by omega) W).mono fun _ _ h => ⟨h.1, h.2.symm⟩
  have hq : (((foldN (wsum s) : Nat) : Int) != 65535) = false := by rw [bne_eq_false_iff_eq]; omega
  generalize foldN (wsum s) = f at *
  have i0 : (0 : Int) < (s.length : Int) := by omega
  have e0 := Str_at s 0 (by rw [Str_size]; omega)
  generalize by8 s 0 = b0 at *
  have t1 : ((b0 : Int) == 17) = false := by rw [beq_eq_false_iff_ne]; omega
  have t2 : ((b0 : Int) == 34) = false := by rw [beq_eq_false_iff_ne]; omega
  have t3 : ((b0 : Int) == 18) = false := by rw [beq_eq_false_iff_ne]; omega
  have t4 : ((b0 : Int) == 22) = false := by rw [beq_eq_false_iff_ne]; omega
  have t5 : ((b0 : Int) == 23) = false := by rw [beq_eq_false_iff_ne]; omega
  clear h1 h2 h3 h4 h5
  have hsz := Str_size s
  have H0 := Lib.hid (QN.start w)
  have hbz := bldr_tk0
  have hfz : fok (tkC zeroT (.slice none 0 0) (.slice none 0 0)).toArray 26 = true := fok_tk zeroA_ok rfl rfl
  have hfm := free_made (w.alloc (.cells #[.bool false, .int .i64 0, .int .i64 0, .int .i64 0, .bool false, .int .u8 0, .int .u8 0, .int .u8 0, .int .u8 0, .int .u8 0, .int .u8 0, .int .u8 0, .int .u8 0, .int .u8 0, .int .u8 0, .int .u8 0, .int .u8 0, .int .u8 0, .int .u8 0, .int .u8 0, .int .u8 0, .bool false, .int .i64 0, .int .i64 0, .slice none 0 0, .slice none 0 0] 29)) #[.bool false, .int .i64 0, .int .i64 0, .int .i64 0, .bool false, .int .u8 0, .int .u8 0, .int .u8 0, .int .u8 0, .int .u8 0, .int .u8 0, .int .u8 0, .int .u8 0, .int .u8 0, .int .u8 0, .int .u8 0, .int .u8 0, .int .u8 0, .int .u8 0, .int .u8 0, .int .u8 0, .bool false, .int .i64 0, .int .i64 0, .slice none 0 0, .slice none 0 0] 29 26 (by simp)
  rw [show (w.alloc (.cells #[.bool false, .int .i64 0, .int .i64 0, .int .i64 0, .bool false, .int .u8 0, .int .u8 0, .int .u8 0, .int .u8 0, .int .u8 0, .int .u8 0, .int .u8 0, .int .u8 0, .int .u8 0, .int .u8 0, .int .u8 0, .int .u8 0, .int .u8 0, .int .u8 0, .int .u8 0, .int .u8 0, .bool false, .int .i64 0, .int .i64 0, .slice none 0 0, .slice none 0 0] 29)).heap.size = w.heap.size + 1 by simp] at hfm
  have hfm2 : ∀ W : World, free? (W.alloc (.cells #[.bool false, .int .i64 0, .int .i64 0, .int .i64 0, .bool false, .int .u8 0, .int .u8 0, .int .u8 0, .int .u8 0, .int .u8 0, .int .u8 0, .int .u8 0, .int .u8 0, .int .u8 0, .int .u8 0, .int .u8 0, .int .u8 0, .int .u8 0, .int .u8 0, .int .u8 0, .int .u8 0, .bool false, .int .i64 0, .int .i64 0, .slice none 0 0, .slice none 0 0] 29)) W.heap.size 0 26 = true := fun W => free_made W _ _ 26 (by simp)
  go_enter Try.func7, Try.ntmps7
  go_upto_region 2 with (fail)
  generalize aggW ((w.alloc (.cells #[.bool false, .int .i64 0, .int .i64 0, .int .i64 0, .bool false, .int .u8 0, .int .u8 0, .int .u8 0, .int .u8 0, .int .u8 0, .int .u8 0, .int .u8 0, .int .u8 0, .int .u8 0, .int .u8 0, .int .u8 0, .int .u8 0, .int .u8 0, .int .u8 0, .int .u8 0, .int .u8 0, .bool false, .int .i64 0, .int .i64 0, .slice none 0 0, .slice none 0 0] 29)).alloc (.cells #[.bool false, .int .i64 0, .int .i64 0, .int .i64 0, .bool false, .int .u8 0, .int .u8 0, .int .u8 0, .int .u8 0, .int .u8 0, .int .u8 0, .int .u8 0, .int .u8 0, .int .u8 0, .int .u8 0, .int .u8 0, .int .u8 0, .int .u8 0, .int .u8 0, .int .u8 0, .int .u8 0, .bool false, .int .i64 0, .int .i64 0, .slice none 0 0, .slice none 0 0] 29)) (w.heap.size + 1) _ = W at H0 ⊢
  generalize w.heap.size + 1 = p at H0 ⊢
  clear hbz hfm
  have rz := H0.out.row
  have fz := H0.out.free
  go_upto_region 7 with (go_at_call 20; (with_reducible refine (HSUM.out _).mono ?_); rintro x w5 ⟨rfl, hw5⟩; subst hw5)
  have H1 := Lib.hid H0.out.talk
  generalize aggW (w5.alloc (.cells #[.bool false, .int .i64 0, .int .i64 0, .int .i64 0, .bool false, .int .u8 0, .int .u8 0, .int .u8 0, .int .u8 0, .int .u8 0, .int .u8 0, .int .u8 0, .int .u8 0, .int .u8 0, .int .u8 0, .int .u8 0, .int .u8 0, .int .u8 0, .int .u8 0, .int .u8 0, .int .u8 0, .bool false, .int .i64 0, .int .i64 0, .slice none 0 0, .slice none 0 0] 29)) w5.heap.size _ = W1 at H1 ⊢
  generalize w5.heap.size = m at H1 ⊢
  clear rz fz hfm2
  obtain ⟨k1, k2, k3, k4, k5, k6, k7, k8, k9, ka, kb, kc, kf⟩ := H1.out.cells
  have rz := H1.out.n.row
  go_upto_region 21 with (fail)
  repeat (first | go_values | go_skip | go_guarded | go_step | go_upon | go_in)
  obtain ⟨qr1, qr2⟩ := H1.out.n.ret (s := s) (e := 5) (HR.out)
  exact bodyPost_ret (results_cell2 Try.results7 rfl (ld_some qr1 (ldr_tk _ _ _))) rfl qr2


set_option maxRecDepth 100000 in
set_option maxHeartbeats 4000000 in
theorem rread8_17 (s : List UInt8) (hs : s.length ≤ 100000) (h8 : ¬ s.length < 8) (hc : foldN (wsum s) = 65535) (h1 : by8 s 0 = 17) (w : World) :
    Calls Try.prog 7 #[.string (Str s)] w fun x w' => ReadP w s x w' := by
  have HR := Lib.hid (show readT s = qry s by unfold readT; rw [if_neg h8, if_neg (by omega), if_pos h1])
  have HQ := Lib.hid (fun W => rquery_any s hs (by omega) W)
  have hd : ¬ (s.length : Int) < 8 := by omega
  have HSUM : Hid (∀ W, Calls Try.prog 20 #[.string (Str s)] W fun e w' => e = .returned (.int .i64 (foldN (wsum s))) ∧ w' = W) := Lib.hid fun W => (rsum_any s (by omega) W).mono fun _ _ h => ⟨h.1, h.2.symm⟩
  have hq : (((foldN (wsum s) : Nat) : Int) != 65535) = false := by rw [bne_eq_false_iff_eq]; omega
  generalize foldN (wsum s) = f at *
  have i0 : (0 : Int) < (s.length : Int) := by omega
  have e0 := Str_at s 0 (by rw [Str_size]; omega)
  rw [h1] at e0
  have hsz := Str_size s
  have H0 := Lib.hid (QN.start w)
  have hbz := bldr_tk0
  have hfz : fok (tkC zeroT (.slice none 0 0) (.slice none 0 0)).toArray 26 = true := fok_tk zeroA_ok rfl rfl
  have hfm := free_made (w.alloc (.cells #[.bool false, .int .i64 0, .int .i64 0, .int .i64 0, .bool false, .int .u8 0, .int .u8 0, .int .u8 0, .int .u8 0, .int .u8 0, .int .u8 0, .int .u8 0, .int .u8 0, .int .u8 0, .int .u8 0, .int .u8 0, .int .u8 0, .int .u8 0, .int .u8 0, .int .u8 0, .int .u8 0, .bool false, .int .i64 0, .int .i64 0, .slice none 0 0, .slice none 0 0] 29)) #[.bool false, .int .i64 0, .int .i64 0, .int .i64 0, .bool false, .int .u8 0, .int .u8 0, .int .u8 0, .int .u8 0, .int .u8 0, .int .u8 0, .int .u8 0, .int .u8 0, .int .u8 0, .int .u8 0, .int .u8 0, .int .u8 0, .int .u8 0, .int .u8 0, .int .u8 0, .int .u8 0, .bool false, .int .i64 0, .int .i64 0, .slice none 0 0, .slice none 0 0] 29 26 (by simp)
  rw [show (w.alloc (.cells #[.bool false, .int .i64 0, .int .i64 0, .int .i64 0, .bool false, .int .u8 0, .int .u8 0, .int .u8 0, .int .u8 0, .int .u8 0, .int .u8 0, .int .u8 0, .int .u8 0, .int .u8 0, .int .u8 0, .int .u8 0, .int .u8 0, .int .u8 0, .int .u8 0, .int .u8 0, .int .u8 0, .bool false, .int .i64 0, .int .i64 0, .slice none 0 0, .slice none 0 0] 29)).heap.size = w.heap.size + 1 by simp] at hfm
  have hfm2 : ∀ W : World, free? (W.alloc (.cells #[.bool false, .int .i64 0, .int .i64 0, .int .i64 0, .bool false, .int .u8 0, .int .u8 0, .int .u8 0, .int .u8 0, .int .u8 0, .int .u8 0, .int .u8 0, .int .u8 0, .int .u8 0, .int .u8 0, .int .u8 0, .int .u8 0, .int .u8 0, .int .u8 0, .int .u8 0, .int .u8 0, .bool false, .int .i64 0, .int .i64 0, .slice none 0 0, .slice none 0 0] 29)) W.heap.size 0 26 = true := fun W => free_made W _ _ 26 (by simp)
  go_enter Try.func7, Try.ntmps7
  go_upto_region 2 with (fail)
  generalize aggW ((w.alloc (.cells #[.bool false, .int .i64 0, .int .i64 0, .int .i64 0, .bool false, .int .u8 0, .int .u8 0, .int .u8 0, .int .u8 0, .int .u8 0, .int .u8 0, .int .u8 0, .int .u8 0, .int .u8 0, .int .u8 0, .int .u8 0, .int .u8 0, .int .u8 0, .int .u8 0, .int .u8 0, .int .u8 0, .bool false, .int .i64 0, .int .i64 0, .slice none 0 0, .slice none 0 0] 29)).alloc (.cells #[.bool false, .int .i64 0, .int .i64 0, .int .i64 0, .bool false, .int .u8 0, .int .u8 0, .int .u8 0, .int .u8 0, .int .u8 0, .int .u8 0, .int .u8 0, .int .u8 0, .int .u8 0, .int .u8 0, .int .u8 0, .int .u8 0, .int .u8 0, .int .u8 0, .int .u8 0, .int .u8 0, .bool false, .int .i64 0, .int .i64 0, .slice none 0 0, .slice none 0 0] 29)) (w.heap.size + 1) _ = W at H0 ⊢
  generalize w.heap.size + 1 = p at H0 ⊢
  clear hbz hfm
  have rz := H0.out.row
  have fz := H0.out.free
  go_upto_region 7 with (go_at_call 20; (with_reducible refine (HSUM.out _).mono ?_); rintro x w5 ⟨rfl, hw5⟩; subst hw5)
  have H1 := Lib.hid H0.out.talk
  generalize aggW (w5.alloc (.cells #[.bool false, .int .i64 0, .int .i64 0, .int .i64 0, .bool false, .int .u8 0, .int .u8 0, .int .u8 0, .int .u8 0, .int .u8 0, .int .u8 0, .int .u8 0, .int .u8 0, .int .u8 0, .int .u8 0, .int .u8 0, .int .u8 0, .int .u8 0, .int .u8 0, .int .u8 0, .int .u8 0, .bool false, .int .i64 0, .int .i64 0, .slice none 0 0, .slice none 0 0] 29)) w5.heap.size _ = W1 at H1 ⊢
  generalize w5.heap.size = m at H1 ⊢
  clear rz fz hfm2
  obtain ⟨k1, k2, k3, k4, k5, k6, k7, k8, k9, ka, kb, kc, kf⟩ := H1.out.cells
  have rz := H1.out.n.row
  go_upto_region 8 with (fail)
  go_upto_region 9 with (go_at_call 21; (with_reducible refine (HQ.out _).mono ?_); rintro x w6 ⟨t6, us6, ur6, rfl, hb6, ho6, hu6, hv6, hz6⟩; have H2 := Lib.hid (H1.out.below hb6); have HZ := Lib.hid hz6; have hft := fok_tk ho6 hu6 hv6; have HO6 := Lib.hid (And.intro ho6 (And.intro hu6 hv6)); clear hb6 hz6 ho6 hu6 hv6 k1 k2 k3 k4 k5 k6 k7 k8 k9 ka kb kc kf rz; obtain ⟨k1, k2, k3, k4, k5, k6, k7, k8, k9, ka, kb, kc, kf⟩ := H2.out.cells; have rz := H2.out.n.row)
  have HB := Lib.hid (qry_bad s)
  have HE := Lib.hid (show qry s = ((qry s).1, (qry s).2) from rfl)
  generalize (qry s).2 = E at *
  by_cases h0 : E = 0
  · obtain ⟨z1, z2, z3⟩ := HZ.out h0
    have H3 := Lib.hid (H2.out.put HO6.out.1 z2 z3)
    have HT := Lib.hid (show readT s = (t6, 0) by rw [HR.out, HE.out, h0, z1])
    have te : (E != 0) = false := by rw [bne_eq_false_iff_eq]; exact h0
    clear z1 z2 z3 h0 HZ HB HE k1 k2 k3 k4 k5 k6 k7 k8 k9 ka kb kc kf rz
    generalize aggW w6 m _ = W3 at H3 ⊢
    obtain ⟨k1, k2, k3, k4, k5, k6, k7, k8, k9, ka, kb, kc, kf⟩ := H3.out.cells
    have rz := H3.out.n.row
    try simp only at k1 k2 k3 k4 k5 k8 k9 ka kb kc
    have hfk := H3.out.fok
    go_upto_region 22 with (fail)
    repeat (first | go_values | go_skip | go_guarded | go_step | go_upon | go_in)
    obtain ⟨qr1, qr2⟩ := H3.out.retR (s := s) (HT.out)
    exact bodyPost_ret (results_cell2 Try.results7 rfl (ld_some qr1 (ldr_tk _ _ _))) rfl qr2
  · have H3 := Lib.hid (H2.out.nput (tkC t6 us6 ur6))
    have HT := Lib.hid (show readT s = (zeroT, E) by rw [HR.out, HB.out h0])
    have te : (E != 0) = true := by rw [bne_iff_ne]; exact h0
    clear h0 HZ HB HE k1 k2 k3 k4 k5 k6 k7 k8 k9 ka kb kc kf rz
    generalize aggW w6 m _ = W3 at H3 ⊢
    have rz := H3.out.row
    have fz := H3.out.free
    go_upto_region 21 with (fail)
    repeat (first | go_values | go_skip | go_guarded | go_step | go_upon | go_in)
    obtain ⟨qr1, qr2⟩ := H3.out.ret (s := s) (e := E) (HT.out)
    exact bodyPost_ret (results_cell2 Try.results7 rfl (ld_some qr1 (ldr_tk _ _ _))) rfl qr2


set_option maxRecDepth 100000 in
set_option maxHeartbeats 4000000 in
theorem rread8_34 (s : List UInt8) (hs : s.length ≤ 100000) (h8 : ¬ s.length < 8) (hc : foldN (wsum s) = 65535) (h1 : by8 s 0 = 34) (w : World) :
    Calls Try.prog 7 #[.string (Str s)] w fun x w' => ReadP w s x w' := by
  have HRb := Lib.hid (show recE s ≠ 0 → readT s = (zeroT, recE s) from fun h => by
    unfold recE at h ⊢
    unfold readT; rw [if_neg h8, if_neg (by omega), if_neg (by omega), if_pos h1]
    by_cases h64 : 64 < wd s 6
    · rw [if_pos h64, if_pos h64]
    · rw [if_neg h64] at h
      rw [if_neg h64, if_neg h64, if_pos h])
  have HRg := Lib.hid (show recE s = 0 → readT s = (⟨false, 3, 2, 0, zeroA, false, 0, 0, [], (recL s 8 (wd s 6)).1⟩, 0) from fun h => by
    unfold recE at h
    unfold readT; rw [if_neg h8, if_neg (by omega), if_neg (by omega), if_pos h1]
    by_cases h64 : 64 < wd s 6
    · rw [if_pos h64] at h; exact absurd h (by omega)
    · rw [if_neg h64] at h
      rw [if_neg h64, if_neg (by rw [h]; simp)])
  have HQ := Lib.hid (fun W => rrecords_any s hs (by omega) W)
  have hb32 := bldr_tk2 3 2
  have hf32 : fok (tkC ⟨false, 3, 2, 0, zeroA, false, 0, 0, [], []⟩ (.slice none 0 0) (.slice none 0 0)).toArray 26 = true := fok_tk zeroA_ok rfl rfl
  have hd : ¬ (s.length : Int) < 8 := by omega
  have HSUM : Hid (∀ W, Calls Try.prog 20 #[.string (Str s)] W fun e w' => e = .returned (.int .i64 (foldN (wsum s))) ∧ w' = W) := Lib.hid fun W => (rsum_any s (by omega) W).mono fun _ _ h => ⟨h.1, h.2.symm⟩
  have hq : (((foldN (wsum s) : Nat) : Int) != 65535) = false := by rw [bne_eq_false_iff_eq]; omega
  generalize foldN (wsum s) = f at *
  have i0 : (0 : Int) < (s.length : Int) := by omega
  have e0 := Str_at s 0 (by rw [Str_size]; omega)
  rw [h1] at e0
  have hsz := Str_size s
  have H0 := Lib.hid (QN.start w)
  have hbz := bldr_tk0
  have hfz : fok (tkC zeroT (.slice none 0 0) (.slice none 0 0)).toArray 26 = true := fok_tk zeroA_ok rfl rfl
  have hfm := free_made (w.alloc (.cells #[.bool false, .int .i64 0, .int .i64 0, .int .i64 0, .bool false, .int .u8 0, .int .u8 0, .int .u8 0, .int .u8 0, .int .u8 0, .int .u8 0, .int .u8 0, .int .u8 0, .int .u8 0, .int .u8 0, .int .u8 0, .int .u8 0, .int .u8 0, .int .u8 0, .int .u8 0, .int .u8 0, .bool false, .int .i64 0, .int .i64 0, .slice none 0 0, .slice none 0 0] 29)) #[.bool false, .int .i64 0, .int .i64 0, .int .i64 0, .bool false, .int .u8 0, .int .u8 0, .int .u8 0, .int .u8 0, .int .u8 0, .int .u8 0, .int .u8 0, .int .u8 0, .int .u8 0, .int .u8 0, .int .u8 0, .int .u8 0, .int .u8 0, .int .u8 0, .int .u8 0, .int .u8 0, .bool false, .int .i64 0, .int .i64 0, .slice none 0 0, .slice none 0 0] 29 26 (by simp)
  rw [show (w.alloc (.cells #[.bool false, .int .i64 0, .int .i64 0, .int .i64 0, .bool false, .int .u8 0, .int .u8 0, .int .u8 0, .int .u8 0, .int .u8 0, .int .u8 0, .int .u8 0, .int .u8 0, .int .u8 0, .int .u8 0, .int .u8 0, .int .u8 0, .int .u8 0, .int .u8 0, .int .u8 0, .int .u8 0, .bool false, .int .i64 0, .int .i64 0, .slice none 0 0, .slice none 0 0] 29)).heap.size = w.heap.size + 1 by simp] at hfm
  have hfm2 : ∀ W : World, free? (W.alloc (.cells #[.bool false, .int .i64 0, .int .i64 0, .int .i64 0, .bool false, .int .u8 0, .int .u8 0, .int .u8 0, .int .u8 0, .int .u8 0, .int .u8 0, .int .u8 0, .int .u8 0, .int .u8 0, .int .u8 0, .int .u8 0, .int .u8 0, .int .u8 0, .int .u8 0, .int .u8 0, .int .u8 0, .bool false, .int .i64 0, .int .i64 0, .slice none 0 0, .slice none 0 0] 29)) W.heap.size 0 26 = true := fun W => free_made W _ _ 26 (by simp)
  go_enter Try.func7, Try.ntmps7
  go_upto_region 2 with (fail)
  generalize aggW ((w.alloc (.cells #[.bool false, .int .i64 0, .int .i64 0, .int .i64 0, .bool false, .int .u8 0, .int .u8 0, .int .u8 0, .int .u8 0, .int .u8 0, .int .u8 0, .int .u8 0, .int .u8 0, .int .u8 0, .int .u8 0, .int .u8 0, .int .u8 0, .int .u8 0, .int .u8 0, .int .u8 0, .int .u8 0, .bool false, .int .i64 0, .int .i64 0, .slice none 0 0, .slice none 0 0] 29)).alloc (.cells #[.bool false, .int .i64 0, .int .i64 0, .int .i64 0, .bool false, .int .u8 0, .int .u8 0, .int .u8 0, .int .u8 0, .int .u8 0, .int .u8 0, .int .u8 0, .int .u8 0, .int .u8 0, .int .u8 0, .int .u8 0, .int .u8 0, .int .u8 0, .int .u8 0, .int .u8 0, .int .u8 0, .bool false, .int .i64 0, .int .i64 0, .slice none 0 0, .slice none 0 0] 29)) (w.heap.size + 1) _ = W at H0 ⊢
  generalize w.heap.size + 1 = p at H0 ⊢
  clear hbz hfm
  have rz := H0.out.row
  have fz := H0.out.free
  go_upto_region 7 with (go_at_call 20; (with_reducible refine (HSUM.out _).mono ?_); rintro x w5 ⟨rfl, hw5⟩; subst hw5)
  have H1 := Lib.hid H0.out.talk
  generalize aggW (w5.alloc (.cells #[.bool false, .int .i64 0, .int .i64 0, .int .i64 0, .bool false, .int .u8 0, .int .u8 0, .int .u8 0, .int .u8 0, .int .u8 0, .int .u8 0, .int .u8 0, .int .u8 0, .int .u8 0, .int .u8 0, .int .u8 0, .int .u8 0, .int .u8 0, .int .u8 0, .int .u8 0, .int .u8 0, .bool false, .int .i64 0, .int .i64 0, .slice none 0 0, .slice none 0 0] 29)) w5.heap.size _ = W1 at H1 ⊢
  generalize w5.heap.size = m at H1 ⊢
  clear rz fz hfm2
  obtain ⟨k1, k2, k3, k4, k5, k6, k7, k8, k9, ka, kb, kc, kf⟩ := H1.out.cells
  have rz := H1.out.n.row
  go_upto_region 11 with (fail)
  have H2 := Lib.hid (H1.out.put (t' := ⟨false, 3, 2, 0, zeroA, false, 0, 0, [], []⟩) zeroA_ok (AdsT.nil _) (RcT.nil _))
  clear hb32 hf32 k1 k2 k3 k4 k5 k6 k7 k8 k9 ka kb kc kf rz
  generalize aggW W1 m _ = W2 at H2 ⊢
  obtain ⟨k1, k2, k3, k4, k5, k6, k7, k8, k9, ka, kb, kc, kf⟩ := H2.out.cells
  have rz := H2.out.n.row
  try simp only at k1 k2 k3 k4 k5 k8 k9 ka kb kc
  go_upto_region 12 with (go_at_call 22; (with_reducible refine (HQ.out _).mono ?_); rintro x w6 ⟨v6, rfl, hb6, q6, hq6, hz6⟩; have hr6 : RcT w6 v6 (q6.map Prod.fst) := ⟨_, q6, hq6, rfl⟩; clear hq6; generalize q6.map Prod.fst = l6 at hz6 hr6; obtain ⟨pp6, cc6, ev6, hl6, hc6⟩ := hr6.rcs.len; subst ev6; have H3 := Lib.hid (H2.out.below hb6); have HZ := Lib.hid hz6; have HRQ := Lib.hid hr6; clear hb6 hz6 hr6 k1 k2 k3 k4 k5 k6 k7 k8 k9 ka kb kc kf rz; obtain ⟨k1, k2, k3, k4, k5, k6, k7, k8, k9, ka, kb, kc, kf⟩ := H3.out.cells; have rz := H3.out.n.row; try simp only at k1 k2 k3 k4 k5 k8 k9 ka kb kc)
  have H4 := Lib.hid (H3.out.set 25 (.slice pp6 l6.length cc6) (tkC_rcs _ _ _ zeroA_ok (.slice pp6 l6.length cc6) l6) zeroA_ok (AdsT.nil _) HRQ.out)
  clear k1 k2 k3 k4 k5 k6 k7 k8 k9 ka kb kc kf rz
  try simp only at H4
  generalize World.setCell _ ⟨m, 25, none⟩ _ = W4 at H4 ⊢
  obtain ⟨k1, k2, k3, k4, k5, k6, k7, k8, k9, ka, kb, kc, kf⟩ := H4.out.cells
  have rz := H4.out.n.row
  try simp only at k1 k2 k3 k4 k5 k8 k9 ka kb kc
  have hfk := H4.out.fok
  have fz := H4.out.free
  generalize recE s = E at *
  by_cases h0 : E = 0
  · have HT := Lib.hid (show readT s = (⟨false, 3, 2, 0, zeroA, false, 0, 0, [], l6⟩, 0) by rw [HRg.out h0, HZ.out h0])
    have te : (E != 0) = false := by rw [bne_eq_false_iff_eq]; exact h0
    clear h0 HZ HRg HRb
    go_upto_region 22 with (fail)
    repeat (first | go_values | go_skip | go_guarded | go_step | go_upon | go_in)
    obtain ⟨qr1, qr2⟩ := H4.out.retR (s := s) (HT.out)
    exact bodyPost_ret (results_cell2 Try.results7 rfl (ld_some qr1 (ldr_tk _ _ _))) rfl qr2
  · have HT := Lib.hid (HRb.out h0)
    have te : (E != 0) = true := by rw [bne_iff_ne]; exact h0
    clear h0 HZ HRg HRb
    go_upto_region 21 with (fail)
    repeat (first | go_values | go_skip | go_guarded | go_step | go_upon | go_in)
    obtain ⟨qr1, qr2⟩ := H4.out.n.ret (s := s) (e := E) (HT.out)
    exact bodyPost_ret (results_cell2 Try.results7 rfl (ld_some qr1 (ldr_tk _ _ _))) rfl qr2


set_option maxRecDepth 100000 in
set_option maxHeartbeats 4000000 in
theorem rread8_18 (s : List UInt8) (hs : s.length ≤ 100000) (h8 : ¬ s.length < 8) (hc : foldN (wsum s) = 65535) (h1 : by8 s 0 = 18) (w : World) :
    Calls Try.prog 7 #[.string (Str s)] w fun x w' => ReadP w s x w' := by
  have HRx := Lib.hid (show readT s = if grp8 (fourL s 4) = false then (zeroT, 2) else (⟨false, 1, 2, 0, fourL s 4, false, 0, 0, [], []⟩, 0) by
    unfold readT; rw [if_neg h8, if_neg (by omega), if_neg (by omega), if_neg (by omega), if_pos (by omega), if_pos h1, if_neg (show ¬ by8 s 0 = 23 by omega)])
  have HF4 : Hid (∀ W, Calls Try.prog 23 #[.string (Str s), .int .i64 4] W fun x w' => x = .returned (.agg (adC (fourL s 4)).toArray) ∧ Below W.heap.size W w') := Lib.hid fun W => rfour_any s hs 4 (by omega) W
  have HO := Lib.hid (fourL_ok s 4)
  have HG := Lib.hid (fun W => rgroup8_any (fourL s 4) (fourL_ok s 4) W)
  generalize fourL s 4 = G at *
  have hb22 := bldr_tk3 2 2 G HO.out
  have hf22 : fok (tkC ⟨false, 2, 2, 0, G, false, 0, 0, [], []⟩ (.slice none 0 0) (.slice none 0 0)).toArray 26 = true := fok_tk HO.out rfl rfl
  have hd : ¬ (s.length : Int) < 8 := by omega
  have HSUM : Hid (∀ W, Calls Try.prog 20 #[.string (Str s)] W fun e w' => e = .returned (.int .i64 (foldN (wsum s))) ∧ w' = W) := Lib.hid fun W => (rsum_any s (by omega) W).mono fun _ _ h => ⟨h.1, h.2.symm⟩
  have hq : (((foldN (wsum s) : Nat) : Int) != 65535) = false := by rw [bne_eq_false_iff_eq]; omega
  generalize foldN (wsum s) = f at *
  have i0 : (0 : Int) < (s.length : Int) := by omega
  have e0 := Str_at s 0 (by rw [Str_size]; omega)
  rw [h1] at e0
  have hsz := Str_size s
  have H0 := Lib.hid (QN.start w)
  have hbz := bldr_tk0
  have hfz : fok (tkC zeroT (.slice none 0 0) (.slice none 0 0)).toArray 26 = true := fok_tk zeroA_ok rfl rfl
  have hfm := free_made (w.alloc (.cells #[.bool false, .int .i64 0, .int .i64 0, .int .i64 0, .bool false, .int .u8 0, .int .u8 0, .int .u8 0, .int .u8 0, .int .u8 0, .int .u8 0, .int .u8 0, .int .u8 0, .int .u8 0, .int .u8 0, .int .u8 0, .int .u8 0, .int .u8 0, .int .u8 0, .int .u8 0, .int .u8 0, .bool false, .int .i64 0, .int .i64 0, .slice none 0 0, .slice none 0 0] 29)) #[.bool false, .int .i64 0, .int .i64 0, .int .i64 0, .bool false, .int .u8 0, .int .u8 0, .int .u8 0, .int .u8 0, .int .u8 0, .int .u8 0, .int .u8 0, .int .u8 0, .int .u8 0, .int .u8 0, .int .u8 0, .int .u8 0, .int .u8 0, .int .u8 0, .int .u8 0, .int .u8 0, .bool false, .int .i64 0, .int .i64 0, .slice none 0 0, .slice none 0 0] 29 26 (by simp)
  rw [show (w.alloc (.cells #[.bool false, .int .i64 0, .int .i64 0, .int .i64 0, .bool false, .int .u8 0, .int .u8 0, .int .u8 0, .int .u8 0, .int .u8 0, .int .u8 0, .int .u8 0, .int .u8 0, .int .u8 0, .int .u8 0, .int .u8 0, .int .u8 0, .int .u8 0, .int .u8 0, .int .u8 0, .int .u8 0, .bool false, .int .i64 0, .int .i64 0, .slice none 0 0, .slice none 0 0] 29)).heap.size = w.heap.size + 1 by simp] at hfm
  have hfm2 : ∀ W : World, free? (W.alloc (.cells #[.bool false, .int .i64 0, .int .i64 0, .int .i64 0, .bool false, .int .u8 0, .int .u8 0, .int .u8 0, .int .u8 0, .int .u8 0, .int .u8 0, .int .u8 0, .int .u8 0, .int .u8 0, .int .u8 0, .int .u8 0, .int .u8 0, .int .u8 0, .int .u8 0, .int .u8 0, .int .u8 0, .bool false, .int .i64 0, .int .i64 0, .slice none 0 0, .slice none 0 0] 29)) W.heap.size 0 26 = true := fun W => free_made W _ _ 26 (by simp)
  go_enter Try.func7, Try.ntmps7
  go_upto_region 2 with (fail)
  generalize aggW ((w.alloc (.cells #[.bool false, .int .i64 0, .int .i64 0, .int .i64 0, .bool false, .int .u8 0, .int .u8 0, .int .u8 0, .int .u8 0, .int .u8 0, .int .u8 0, .int .u8 0, .int .u8 0, .int .u8 0, .int .u8 0, .int .u8 0, .int .u8 0, .int .u8 0, .int .u8 0, .int .u8 0, .int .u8 0, .bool false, .int .i64 0, .int .i64 0, .slice none 0 0, .slice none 0 0] 29)).alloc (.cells #[.bool false, .int .i64 0, .int .i64 0, .int .i64 0, .bool false, .int .u8 0, .int .u8 0, .int .u8 0, .int .u8 0, .int .u8 0, .int .u8 0, .int .u8 0, .int .u8 0, .int .u8 0, .int .u8 0, .int .u8 0, .int .u8 0, .int .u8 0, .int .u8 0, .int .u8 0, .int .u8 0, .bool false, .int .i64 0, .int .i64 0, .slice none 0 0, .slice none 0 0] 29)) (w.heap.size + 1) _ = W at H0 ⊢
  generalize w.heap.size + 1 = p at H0 ⊢
  clear hbz hfm
  have rz := H0.out.row
  have fz := H0.out.free
  go_upto_region 7 with (go_at_call 20; (with_reducible refine (HSUM.out _).mono ?_); rintro x w5 ⟨rfl, hw5⟩; subst hw5)
  have H1 := Lib.hid H0.out.talk
  generalize aggW (w5.alloc (.cells #[.bool false, .int .i64 0, .int .i64 0, .int .i64 0, .bool false, .int .u8 0, .int .u8 0, .int .u8 0, .int .u8 0, .int .u8 0, .int .u8 0, .int .u8 0, .int .u8 0, .int .u8 0, .int .u8 0, .int .u8 0, .int .u8 0, .int .u8 0, .int .u8 0, .int .u8 0, .int .u8 0, .bool false, .int .i64 0, .int .i64 0, .slice none 0 0, .slice none 0 0] 29)) w5.heap.size _ = W1 at H1 ⊢
  generalize w5.heap.size = m at H1 ⊢
  clear rz fz hfm2
  obtain ⟨k1, k2, k3, k4, k5, k6, k7, k8, k9, ka, kb, kc, kf⟩ := H1.out.cells
  have rz := H1.out.n.row
  go_upto_region 14 with (go_at_call 23; (with_reducible refine (HF4.out _).mono ?_); rintro x w6 ⟨rfl, hb6⟩; have H2 := Lib.hid (H1.out.below hb6); clear hb6 k1 k2 k3 k4 k5 k6 k7 k8 k9 ka kb kc kf rz; obtain ⟨k1, k2, k3, k4, k5, k6, k7, k8, k9, ka, kb, kc, kf⟩ := H2.out.cells; have rz := H2.out.n.row; try simp only at k1 k2 k3 k4 k5 k8 k9 ka kb kc)
  have H3 := Lib.hid (H2.out.put (t' := ⟨false, 2, 2, 0, G, false, 0, 0, [], []⟩) HO.out (AdsT.nil _) (RcT.nil _))
  clear hb22 hf22 k1 k2 k3 k4 k5 k6 k7 k8 k9 ka kb kc kf rz
  generalize aggW w6 m _ = W3 at H3 ⊢
  obtain ⟨k1, k2, k3, k4, k5, k6, k7, k8, k9, ka, kb, kc, kf⟩ := H3.out.cells
  have rz := H3.out.n.row
  try simp only at k1 k2 k3 k4 k5 k8 k9 ka kb kc
  go_upto_region 16 with (fail)
  have H4 := Lib.hid (H3.out.set 1 (.int .i64 1) (tkC_ver _ _ _ _) HO.out (AdsT.nil _) (RcT.nil _))
  clear k1 k2 k3 k4 k5 k6 k7 k8 k9 ka kb kc kf rz
  try simp only at H4
  generalize World.setCell _ ⟨m, 1, none⟩ _ = W4 at H4 ⊢
  obtain ⟨k1, k2, k3, k4, k5, k6, k7, k8, k9, ka, kb, kc, kf⟩ := H4.out.cells
  have rz := H4.out.n.row
  try simp only at k1 k2 k3 k4 k5 k8 k9 ka kb kc
  cases hg : grp8 G with
  | false =>
    rw [hg] at HG
    have HT := Lib.hid (show readT s = (zeroT, 2) by rw [HRx.out, if_pos hg])
    clear hg HRx
    go_upto_region 21 with (go_at_call 24; (with_reducible refine (HG.out _).mono ?_); rintro x w7 ⟨rfl, hb7⟩; have H5 := Lib.hid (H4.out.below hb7); clear hb7 k1 k2 k3 k4 k5 k6 k7 k8 k9 ka kb kc kf rz; obtain ⟨k1, k2, k3, k4, k5, k6, k7, k8, k9, ka, kb, kc, kf⟩ := H5.out.cells; have rz := H5.out.n.row; try simp only at k1 k2 k3 k4 k5 k8 k9 ka kb kc)
    have fz := H5.out.free
    repeat (first | go_values | go_skip | go_guarded | go_step | go_upon | go_in)
    obtain ⟨qr1, qr2⟩ := H5.out.n.ret (s := s) (e := 2) (HT.out)
    exact bodyPost_ret (results_cell2 Try.results7 rfl (ld_some qr1 (ldr_tk _ _ _))) rfl qr2
  | true =>
    rw [hg] at HG
    have HT := Lib.hid (show readT s = (⟨false, 1, 2, 0, G, false, 0, 0, [], []⟩, 0) by rw [HRx.out, if_neg (by rw [hg]; simp)])
    clear hg HRx
    go_upto_region 22 with (go_at_call 24; (with_reducible refine (HG.out _).mono ?_); rintro x w7 ⟨rfl, hb7⟩; have H5 := Lib.hid (H4.out.below hb7); clear hb7 k1 k2 k3 k4 k5 k6 k7 k8 k9 ka kb kc kf rz; obtain ⟨k1, k2, k3, k4, k5, k6, k7, k8, k9, ka, kb, kc, kf⟩ := H5.out.cells; have rz := H5.out.n.row; try simp only at k1 k2 k3 k4 k5 k8 k9 ka kb kc)
    have hfk := H5.out.fok
    have fz := H5.out.free
    repeat (first | go_values | go_skip | go_guarded | go_step | go_upon | go_in)
    obtain ⟨qr1, qr2⟩ := H5.out.retR (s := s) (HT.out)
    exact bodyPost_ret (results_cell2 Try.results7 rfl (ld_some qr1 (ldr_tk _ _ _))) rfl qr2


set_option maxRecDepth 100000 in
set_option maxHeartbeats 4000000 in
theorem rread8_22 (s : List UInt8) (hs : s.length ≤ 100000) (h8 : ¬ s.length < 8) (hc : foldN (wsum s) = 65535) (h1 : by8 s 0 = 22) (w : World) :
    Calls Try.prog 7 #[.string (Str s)] w fun x w' => ReadP w s x w' := by
  have HRx := Lib.hid (show readT s = if grp8 (fourL s 4) = false then (zeroT, 2) else (⟨false, 2, 2, 0, fourL s 4, false, 0, 0, [], []⟩, 0) by
    unfold readT; rw [if_neg h8, if_neg (by omega), if_neg (by omega), if_neg (by omega), if_pos (by omega), if_neg (show ¬ by8 s 0 = 18 by omega), if_neg (show ¬ by8 s 0 = 23 by omega)])
  have HF4 : Hid (∀ W, Calls Try.prog 23 #[.string (Str s), .int .i64 4] W fun x w' => x = .returned (.agg (adC (fourL s 4)).toArray) ∧ Below W.heap.size W w') := Lib.hid fun W => rfour_any s hs 4 (by omega) W
  have HO := Lib.hid (fourL_ok s 4)
  have HG := Lib.hid (fun W => rgroup8_any (fourL s 4) (fourL_ok s 4) W)
  generalize fourL s 4 = G at *
  have hb22 := bldr_tk3 2 2 G HO.out
  have hf22 : fok (tkC ⟨false, 2, 2, 0, G, false, 0, 0, [], []⟩ (.slice none 0 0) (.slice none 0 0)).toArray 26 = true := fok_tk HO.out rfl rfl
  have hd : ¬ (s.length : Int) < 8 := by omega
  have HSUM : Hid (∀ W, Calls Try.prog 20 #[.string (Str s)] W fun e w' => e = .returned (.int .i64 (foldN (wsum s))) ∧ w' = W) := Lib.hid fun W => (rsum_any s (by omega) W).mono fun _ _ h => ⟨h.1, h.2.symm⟩
  have hq : (((foldN (wsum s) : Nat) : Int) != 65535) = false := by rw [bne_eq_false_iff_eq]; omega
  generalize foldN (wsum s) = f at *
  have i0 : (0 : Int) < (s.length : Int) := by omega
  have e0 := Str_at s 0 (by rw [Str_size]; omega)
  rw [h1] at e0
  have hsz := Str_size s
  have H0 := Lib.hid (QN.start w)
  have hbz := bldr_tk0
  have hfz : fok (tkC zeroT (.slice none 0 0) (.slice none 0 0)).toArray 26 = true := fok_tk zeroA_ok rfl rfl
  have hfm := free_made (w.alloc (.cells #[.bool false, .int .i64 0, .int .i64 0, .int .i64 0, .bool false, .int .u8 0, .int .u8 0, .int .u8 0, .int .u8 0, .int .u8 0, .int .u8 0, .int .u8 0, .int .u8 0, .int .u8 0, .int .u8 0, .int .u8 0, .int .u8 0, .int .u8 0, .int .u8 0, .int .u8 0, .int .u8 0, .bool false, .int .i64 0, .int .i64 0, .slice none 0 0, .slice none 0 0] 29)) #[.bool false, .int .i64 0, .int .i64 0, .int .i64 0, .bool false, .int .u8 0, .int .u8 0, .int .u8 0, .int .u8 0, .int .u8 0, .int .u8 0, .int .u8 0, .int .u8 0, .int .u8 0, .int .u8 0, .int .u8 0, .int .u8 0, .int .u8 0, .int .u8 0, .int .u8 0, .int .u8 0, .bool false, .int .i64 0, .int .i64 0, .slice none 0 0, .slice none 0 0] 29 26 (by simp)
  rw [show (w.alloc (.cells #[.bool false, .int .i64 0, .int .i64 0, .int .i64 0, .bool false, .int .u8 0, .int .u8 0, .int .u8 0, .int .u8 0, .int .u8 0, .int .u8 0, .int .u8 0, .int .u8 0, .int .u8 0, .int .u8 0, .int .u8 0, .int .u8 0, .int .u8 0, .int .u8 0, .int .u8 0, .int .u8 0, .bool false, .int .i64 0, .int .i64 0, .slice none 0 0, .slice none 0 0] 29)).heap.size = w.heap.size + 1 by simp] at hfm
  have hfm2 : ∀ W : World, free? (W.alloc (.cells #[.bool false, .int .i64 0, .int .i64 0, .int .i64 0, .bool false, .int .u8 0, .int .u8 0, .int .u8 0, .int .u8 0, .int .u8 0, .int .u8 0, .int .u8 0, .int .u8 0, .int .u8 0, .int .u8 0, .int .u8 0, .int .u8 0, .int .u8 0, .int .u8 0, .int .u8 0, .int .u8 0, .bool false, .int .i64 0, .int .i64 0, .slice none 0 0, .slice none 0 0] 29)) W.heap.size 0 26 = true := fun W => free_made W _ _ 26 (by simp)
  go_enter Try.func7, Try.ntmps7
  go_upto_region 2 with (fail)
  generalize aggW ((w.alloc (.cells #[.bool false, .int .i64 0, .int .i64 0, .int .i64 0, .bool false, .int .u8 0, .int .u8 0, .int .u8 0, .int .u8 0, .int .u8 0, .int .u8 0, .int .u8 0, .int .u8 0, .int .u8 0, .int .u8 0, .int .u8 0, .int .u8 0, .int .u8 0, .int .u8 0, .int .u8 0, .int .u8 0, .bool false, .int .i64 0, .int .i64 0, .slice none 0 0, .slice none 0 0] 29)).alloc (.cells #[.bool false, .int .i64 0, .int .i64 0, .int .i64 0, .bool false, .int .u8 0, .int .u8 0, .int .u8 0, .int .u8 0, .int .u8 0, .int .u8 0, .int .u8 0, .int .u8 0, .int .u8 0, .int .u8 0, .int .u8 0, .int .u8 0, .int .u8 0, .int .u8 0, .int .u8 0, .int .u8 0, .bool false, .int .i64 0, .int .i64 0, .slice none 0 0, .slice none 0 0] 29)) (w.heap.size + 1) _ = W at H0 ⊢
  generalize w.heap.size + 1 = p at H0 ⊢
  clear hbz hfm
  have rz := H0.out.row
  have fz := H0.out.free
  go_upto_region 7 with (go_at_call 20; (with_reducible refine (HSUM.out _).mono ?_); rintro x w5 ⟨rfl, hw5⟩; subst hw5)
  have H1 := Lib.hid H0.out.talk
  generalize aggW (w5.alloc (.cells #[.bool false, .int .i64 0, .int .i64 0, .int .i64 0, .bool false, .int .u8 0, .int .u8 0, .int .u8 0, .int .u8 0, .int .u8 0, .int .u8 0, .int .u8 0, .int .u8 0, .int .u8 0, .int .u8 0, .int .u8 0, .int .u8 0, .int .u8 0, .int .u8 0, .int .u8 0, .int .u8 0, .bool false, .int .i64 0, .int .i64 0, .slice none 0 0, .slice none 0 0] 29)) w5.heap.size _ = W1 at H1 ⊢
  generalize w5.heap.size = m at H1 ⊢
  clear rz fz hfm2
  obtain ⟨k1, k2, k3, k4, k5, k6, k7, k8, k9, ka, kb, kc, kf⟩ := H1.out.cells
  have rz := H1.out.n.row
  go_upto_region 14 with (go_at_call 23; (with_reducible refine (HF4.out _).mono ?_); rintro x w6 ⟨rfl, hb6⟩; have H2 := Lib.hid (H1.out.below hb6); clear hb6 k1 k2 k3 k4 k5 k6 k7 k8 k9 ka kb kc kf rz; obtain ⟨k1, k2, k3, k4, k5, k6, k7, k8, k9, ka, kb, kc, kf⟩ := H2.out.cells; have rz := H2.out.n.row; try simp only at k1 k2 k3 k4 k5 k8 k9 ka kb kc)
  have H3 := Lib.hid (H2.out.put (t' := ⟨false, 2, 2, 0, G, false, 0, 0, [], []⟩) HO.out (AdsT.nil _) (RcT.nil _))
  clear hb22 hf22 k1 k2 k3 k4 k5 k6 k7 k8 k9 ka kb kc kf rz
  generalize aggW w6 m _ = W3 at H3 ⊢
  obtain ⟨k1, k2, k3, k4, k5, k6, k7, k8, k9, ka, kb, kc, kf⟩ := H3.out.cells
  have rz := H3.out.n.row
  try simp only at k1 k2 k3 k4 k5 k8 k9 ka kb kc
  cases hg : grp8 G with
  | false =>
    rw [hg] at HG
    have HT := Lib.hid (show readT s = (zeroT, 2) by rw [HRx.out, if_pos hg])
    clear hg HRx
    go_upto_region 21 with (go_at_call 24; (with_reducible refine (HG.out _).mono ?_); rintro x w7 ⟨rfl, hb7⟩; have H5 := Lib.hid (H3.out.below hb7); clear hb7 k1 k2 k3 k4 k5 k6 k7 k8 k9 ka kb kc kf rz; obtain ⟨k1, k2, k3, k4, k5, k6, k7, k8, k9, ka, kb, kc, kf⟩ := H5.out.cells; have rz := H5.out.n.row; try simp only at k1 k2 k3 k4 k5 k8 k9 ka kb kc)
    have fz := H5.out.free
    repeat (first | go_values | go_skip | go_guarded | go_step | go_upon | go_in)
    obtain ⟨qr1, qr2⟩ := H5.out.n.ret (s := s) (e := 2) (HT.out)
    exact bodyPost_ret (results_cell2 Try.results7 rfl (ld_some qr1 (ldr_tk _ _ _))) rfl qr2
  | true =>
    rw [hg] at HG
    have HT := Lib.hid (show readT s = (⟨false, 2, 2, 0, G, false, 0, 0, [], []⟩, 0) by rw [HRx.out, if_neg (by rw [hg]; simp)])
    clear hg HRx
    go_upto_region 22 with (go_at_call 24; (with_reducible refine (HG.out _).mono ?_); rintro x w7 ⟨rfl, hb7⟩; have H5 := Lib.hid (H3.out.below hb7); clear hb7 k1 k2 k3 k4 k5 k6 k7 k8 k9 ka kb kc kf rz; obtain ⟨k1, k2, k3, k4, k5, k6, k7, k8, k9, ka, kb, kc, kf⟩ := H5.out.cells; have rz := H5.out.n.row; try simp only at k1 k2 k3 k4 k5 k8 k9 ka kb kc)
    have hfk := H5.out.fok
    have fz := H5.out.free
    repeat (first | go_values | go_skip | go_guarded | go_step | go_upon | go_in)
    obtain ⟨qr1, qr2⟩ := H5.out.retR (s := s) (HT.out)
    exact bodyPost_ret (results_cell2 Try.results7 rfl (ld_some qr1 (ldr_tk _ _ _))) rfl qr2


set_option maxRecDepth 100000 in
set_option maxHeartbeats 4000000 in
theorem rread8_23 (s : List UInt8) (hs : s.length ≤ 100000) (h8 : ¬ s.length < 8) (hc : foldN (wsum s) = 65535) (h1 : by8 s 0 = 23) (w : World) :
    Calls Try.prog 7 #[.string (Str s)] w fun x w' => ReadP w s x w' := by
  have HRx := Lib.hid (show readT s = if grp8 (fourL s 4) = false then (zeroT, 2) else (⟨false, 2, 3, 0, fourL s 4, false, 0, 0, [], []⟩, 0) by
    unfold readT; rw [if_neg h8, if_neg (by omega), if_neg (by omega), if_neg (by omega), if_pos (by omega), if_neg (show ¬ by8 s 0 = 18 by omega), if_pos h1])
  have HF4 : Hid (∀ W, Calls Try.prog 23 #[.string (Str s), .int .i64 4] W fun x w' => x = .returned (.agg (adC (fourL s 4)).toArray) ∧ Below W.heap.size W w') := Lib.hid fun W => rfour_any s hs 4 (by omega) W
  have HO := Lib.hid (fourL_ok s 4)
  have HG := Lib.hid (fun W => rgroup8_any (fourL s 4) (fourL_ok s 4) W)
  generalize fourL s 4 = G at *
  have hb22 := bldr_tk3 2 2 G HO.out
  have hf22 : fok (tkC ⟨false, 2, 2, 0, G, false, 0, 0, [], []⟩ (.slice none 0 0) (.slice none 0 0)).toArray 26 = true := fok_tk HO.out rfl rfl
  have hd : ¬ (s.length : Int) < 8 := by omega
  have HSUM : Hid (∀ W, Calls Try.prog 20 #[.string (Str s)] W fun e w' => e = .returned (.int .i64 (foldN (wsum s))) ∧ w' = W) := Lib.hid fun W => (rsum_any s (by omega) W).mono fun _ _ h => ⟨h.1, h.2.symm⟩
  have hq : (((foldN (wsum s) : Nat) : Int) != 65535) = false := by rw [bne_eq_false_iff_eq]; omega
  generalize foldN (wsum s) = f at *
  have i0 : (0 : Int) < (s.length : Int) := by omega
  have e0 := Str_at s 0 (by rw [Str_size]; omega)
  rw [h1] at e0
  have hsz := Str_size s
  have H0 := Lib.hid (QN.start w)
  have hbz := bldr_tk0
  have hfz : fok (tkC zeroT (.slice none 0 0) (.slice none 0 0)).toArray 26 = true := fok_tk zeroA_ok rfl rfl
  have hfm := free_made (w.alloc (.cells #[.bool false, .int .i64 0, .int .i64 0, .int .i64 0, .bool false, .int .u8 0, .int .u8 0, .int .u8 0, .int .u8 0, .int .u8 0, .int .u8 0, .int .u8 0, .int .u8 0, .int .u8 0, .int .u8 0, .int .u8 0, .int .u8 0, .int .u8 0, .int .u8 0, .int .u8 0, .int .u8 0, .bool false, .int .i64 0, .int .i64 0, .slice none 0 0, .slice none 0 0] 29)) #[.bool false, .int .i64 0, .int .i64 0, .int .i64 0, .bool false, .int .u8 0, .int .u8 0, .int .u8 0, .int .u8 0, .int .u8 0, .int .u8 0, .int .u8 0, .int .u8 0, .int .u8 0, .int .u8 0, .int .u8 0, .int .u8 0, .int .u8 0, .int .u8 0, .int .u8 0, .int .u8 0, .bool false, .int .i64 0, .int .i64 0, .slice none 0 0, .slice none 0 0] 29 26 (by simp)
  rw [show (w.alloc (.cells #[.bool false, .int .i64 0, .int .i64 0, .int .i64 0, .bool false, .int .u8 0, .int .u8 0, .int .u8 0, .int .u8 0, .int .u8 0, .int .u8 0, .int .u8 0, .int .u8 0, .int .u8 0, .int .u8 0, .int .u8 0, .int .u8 0, .int .u8 0, .int .u8 0, .int .u8 0, .int .u8 0, .bool false, .int .i64 0, .int .i64 0, .slice none 0 0, .slice none 0 0] 29)).heap.size = w.heap.size + 1 by simp] at hfm
  have hfm2 : ∀ W : World, free? (W.alloc (.cells #[.bool false, .int .i64 0, .int .i64 0, .int .i64 0, .bool false, .int .u8 0, .int .u8 0, .int .u8 0, .int .u8 0, .int .u8 0, .int .u8 0, .int .u8 0, .int .u8 0, .int .u8 0, .int .u8 0, .int .u8 0, .int .u8 0, .int .u8 0, .int .u8 0, .int .u8 0, .int .u8 0, .bool false, .int .i64 0, .int .i64 0, .slice none 0 0, .slice none 0 0] 29)) W.heap.size 0 26 = true := fun W => free_made W _ _ 26 (by simp)
  go_enter Try.func7, Try.ntmps7
  go_upto_region 2 with (fail)
  generalize aggW ((w.alloc (.cells #[.bool false, .int .i64 0, .int .i64 0, .int .i64 0, .bool false, .int .u8 0, .int .u8 0, .int .u8 0, .int .u8 0, .int .u8 0, .int .u8 0, .int .u8 0, .int .u8 0, .int .u8 0, .int .u8 0, .int .u8 0, .int .u8 0, .int .u8 0, .int .u8 0, .int .u8 0, .int .u8 0, .bool false, .int .i64 0, .int .i64 0, .slice none 0 0, .slice none 0 0] 29)).alloc (.cells #[.bool false, .int .i64 0, .int .i64 0, .int .i64 0, .bool false, .int .u8 0, .int .u8 0, .int .u8 0, .int .u8 0, .int .u8 0, .int .u8 0, .int .u8 0, .int .u8 0, .int .u8 0, .int .u8 0, .int .u8 0, .int .u8 0, .int .u8 0, .int .u8 0, .int .u8 0, .int .u8 0, .bool false, .int .i64 0, .int .i64 0, .slice none 0 0, .slice none 0 0] 29)) (w.heap.size + 1) _ = W at H0 ⊢
  generalize w.heap.size + 1 = p at H0 ⊢
  clear hbz hfm
  have rz := H0.out.row
  have fz := H0.out.free
  go_upto_region 7 with (go_at_call 20; (with_reducible refine (HSUM.out _).mono ?_); rintro x w5 ⟨rfl, hw5⟩; subst hw5)
  have H1 := Lib.hid H0.out.talk
  generalize aggW (w5.alloc (.cells #[.bool false, .int .i64 0, .int .i64 0, .int .i64 0, .bool false, .int .u8 0, .int .u8 0, .int .u8 0, .int .u8 0, .int .u8 0, .int .u8 0, .int .u8 0, .int .u8 0, .int .u8 0, .int .u8 0, .int .u8 0, .int .u8 0, .int .u8 0, .int .u8 0, .int .u8 0, .int .u8 0, .bool false, .int .i64 0, .int .i64 0, .slice none 0 0, .slice none 0 0] 29)) w5.heap.size _ = W1 at H1 ⊢
  generalize w5.heap.size = m at H1 ⊢
  clear rz fz hfm2
  obtain ⟨k1, k2, k3, k4, k5, k6, k7, k8, k9, ka, kb, kc, kf⟩ := H1.out.cells
  have rz := H1.out.n.row
  go_upto_region 14 with (go_at_call 23; (with_reducible refine (HF4.out _).mono ?_); rintro x w6 ⟨rfl, hb6⟩; have H2 := Lib.hid (H1.out.below hb6); clear hb6 k1 k2 k3 k4 k5 k6 k7 k8 k9 ka kb kc kf rz; obtain ⟨k1, k2, k3, k4, k5, k6, k7, k8, k9, ka, kb, kc, kf⟩ := H2.out.cells; have rz := H2.out.n.row; try simp only at k1 k2 k3 k4 k5 k8 k9 ka kb kc)
  have H3 := Lib.hid (H2.out.put (t' := ⟨false, 2, 2, 0, G, false, 0, 0, [], []⟩) HO.out (AdsT.nil _) (RcT.nil _))
  clear hb22 hf22 k1 k2 k3 k4 k5 k6 k7 k8 k9 ka kb kc kf rz
  generalize aggW w6 m _ = W3 at H3 ⊢
  obtain ⟨k1, k2, k3, k4, k5, k6, k7, k8, k9, ka, kb, kc, kf⟩ := H3.out.cells
  have rz := H3.out.n.row
  try simp only at k1 k2 k3 k4 k5 k8 k9 ka kb kc
  go_upto_region 18 with (fail)
  have H4 := Lib.hid (H3.out.set 2 (.int .i64 3) (tkC_kind _ _ _ _) HO.out (AdsT.nil _) (RcT.nil _))
  clear k1 k2 k3 k4 k5 k6 k7 k8 k9 ka kb kc kf rz
  try simp only at H4
  generalize World.setCell _ ⟨m, 2, none⟩ _ = W4 at H4 ⊢
  obtain ⟨k1, k2, k3, k4, k5, k6, k7, k8, k9, ka, kb, kc, kf⟩ := H4.out.cells
  have rz := H4.out.n.row
  try simp only at k1 k2 k3 k4 k5 k8 k9 ka kb kc
  cases hg : grp8 G with
  | false =>
    rw [hg] at HG
    have HT := Lib.hid (show readT s = (zeroT, 2) by rw [HRx.out, if_pos hg])
    clear hg HRx
    go_upto_region 21 with (go_at_call 24; (with_reducible refine (HG.out _).mono ?_); rintro x w7 ⟨rfl, hb7⟩; have H5 := Lib.hid (H4.out.below hb7); clear hb7 k1 k2 k3 k4 k5 k6 k7 k8 k9 ka kb kc kf rz; obtain ⟨k1, k2, k3, k4, k5, k6, k7, k8, k9, ka, kb, kc, kf⟩ := H5.out.cells; have rz := H5.out.n.row; try simp only at k1 k2 k3 k4 k5 k8 k9 ka kb kc)
    have fz := H5.out.free
    repeat (first | go_values | go_skip | go_guarded | go_step | go_upon | go_in)
    obtain ⟨qr1, qr2⟩ := H5.out.n.ret (s := s) (e := 2) (HT.out)
    exact bodyPost_ret (results_cell2 Try.results7 rfl (ld_some qr1 (ldr_tk _ _ _))) rfl qr2
  | true =>
    rw [hg] at HG
    have HT := Lib.hid (show readT s = (⟨false, 2, 3, 0, G, false, 0, 0, [], []⟩, 0) by rw [HRx.out, if_neg (by rw [hg]; simp)])
    clear hg HRx
    go_upto_region 22 with (go_at_call 24; (with_reducible refine (HG.out _).mono ?_); rintro x w7 ⟨rfl, hb7⟩; have H5 := Lib.hid (H4.out.below hb7); clear hb7 k1 k2 k3 k4 k5 k6 k7 k8 k9 ka kb kc kf rz; obtain ⟨k1, k2, k3, k4, k5, k6, k7, k8, k9, ka, kb, kc, kf⟩ := H5.out.cells; have rz := H5.out.n.row; try simp only at k1 k2 k3 k4 k5 k8 k9 ka kb kc)
    have hfk := H5.out.fok
    have fz := H5.out.free
    repeat (first | go_values | go_skip | go_guarded | go_step | go_upon | go_in)
    obtain ⟨qr1, qr2⟩ := H5.out.retR (s := s) (HT.out)
    exact bodyPost_ret (results_cell2 Try.results7 rfl (ld_some qr1 (ldr_tk _ _ _))) rfl qr2


theorem rread8_any (s : List UInt8) (hs : s.length ≤ 100000) (w : World) :
    Calls Try.prog 7 #[.string (Str s)] w fun x w' => ReadP w s x w' := by
  by_cases h8 : s.length < 8
  · exact rread8_short s hs h8 w
  by_cases hc : foldN (wsum s) = 65535
  · by_cases h1 : by8 s 0 = 17
    · exact rread8_17 s hs h8 hc h1 w
    by_cases h2 : by8 s 0 = 34
    · exact rread8_34 s hs h8 hc h2 w
    by_cases h3 : by8 s 0 = 18
    · exact rread8_18 s hs h8 hc h3 w
    by_cases h4 : by8 s 0 = 22
    · exact rread8_22 s hs h8 hc h4 w
    by_cases h5 : by8 s 0 = 23
    · exact rread8_23 s hs h8 hc h5 w
    · exact rread8_other s hs h8 hc h1 h2 h3 h4 h5 w
  · exact rread8_sum s hs h8 hc w

end Go.Proofs.Ytchbkamjmkfikaa
