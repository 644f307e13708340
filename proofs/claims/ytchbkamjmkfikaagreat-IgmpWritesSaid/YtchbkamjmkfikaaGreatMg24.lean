/-
  Texts joined: TrA, TqB.
-/
import Derived.Test.YtchbkamjmkfikaaGreatMg22
import Derived.Test.YtchbkamjmkfikaaGreatMg23
import Derived.Deep.CutRange
import Derived.Deep.LoopGhost
/-
  The document's own records of layer 8: the records of a report, read one after the other.
-/
namespace Go.Proofs.YtchbkamjmkfikaaGreat
open Go.RowKit
set_option linter.unusedVariables false
set_option linter.unusedSimpArgs false
attribute [local go_sem ↓] ld_addr st_addr bld_addr ld_rec st_rec bld_rec rcsLit_eq
attribute [local go_sem] ldr_addr str_addr ldr_rec str_rec

/-- What is left to read of a report's records. -/
def RS (s : List UInt8) (n i m : Nat) (acc : List RC) : Prop := (recL s 8 n).2 = (recL s i m).2 ∧ ((recL s i m).2 = 0 → (recL s 8 n).1 = acc ++ (recL s i m).1)
theorem RS.start (s : List UInt8) (n : Nat) : RS s n 8 n [] := ⟨rfl, fun _ => by simp⟩
theorem RS.done {s : List UInt8} {n i : Nat} {acc : List RC} (h : RS s n i 0 acc) : recL s 8 n = (acc, 0) := by
  obtain ⟨h1, h2⟩ := h
  have e : recL s i 0 = ([], 0) := by unfold recL; rfl
  rw [e] at h1 h2
  exact Prod.ext (by rw [h2 rfl]; simp) h1
theorem RS.short {s : List UInt8} {n i m : Nat} {acc : List RC} (h : RS s n i (m + 1) acc) (h1 : s.length < i + 8) : (recL s 8 n).2 = 3 := by
  rw [h.1]; unfold recL; rw [if_pos h1]
theorem RS.srcs {s : List UInt8} {n i m : Nat} {acc : List RC} (h : RS s n i (m + 1) acc) (h1 : ¬ s.length < i + 8) (h2 : srcsE s (i + 8) (wd s (i + 2)) ≠ 0) : (recL s 8 n).2 = srcsE s (i + 8) (wd s (i + 2)) := by
  rw [h.1]; unfold recL; rw [if_neg h1, if_pos h2]
theorem RS.ends {s : List UInt8} {n i m : Nat} {acc : List RC} (h : RS s n i (m + 1) acc) (h1 : ¬ s.length < i + 8) (h2 : srcsE s (i + 8) (wd s (i + 2)) = 0) (h3 : s.length < recN s i) : (recL s 8 n).2 = 3 := by
  rw [h.1]; unfold recL; rw [if_neg h1, if_neg (by rw [h2]; simp), if_pos h3]
theorem RS.step {s : List UInt8} {n i m : Nat} {acc : List RC} (h : RS s n i (m + 1) acc) (h1 : ¬ s.length < i + 8) (h2 : srcsE s (i + 8) (wd s (i + 2)) = 0) (h3 : ¬ s.length < recN s i) :
    RS s n (recN s i) m (if rcOk (rec1 s i) then acc ++ [rec1 s i] else acc) := by
  obtain ⟨a1, a2⟩ := h
  have e : recL s i (m + 1) = if (recL s (recN s i) m).2 ≠ 0 then ([], (recL s (recN s i) m).2) else (if rcOk (rec1 s i) then rec1 s i :: (recL s (recN s i) m).1 else (recL s (recN s i) m).1, 0) := by
    conv => lhs; unfold recL
    rw [if_neg h1, if_neg (by rw [h2]; simp), if_neg h3]
  rw [e] at a1 a2
  by_cases hz : (recL s (recN s i) m).2 = 0
  · rw [if_neg (by rw [hz]; simp)] at a1 a2
    refine ⟨by rw [a1, hz], fun _ => ?_⟩
    rw [a2 rfl]
    split <;> simp
  · rw [if_pos hz] at a1
    exact ⟨a1, fun h => absurd h hz⟩
/-- What a report's records come to. -/
def recE (s : List UInt8) : Int := if 64 < wd s 6 then 6 else (recL s 8 (wd s 6)).2
def RecP (w : World) (s : List UInt8) (x : Ending) (w' : World) : Prop := ∃ v, x = .returned (.tuple #[v, .int .i64 (recE s)]) ∧ Below w.heap.size w w' ∧ ∃ q, RQ w.heap.size w' v q ∧ (recE s = 0 → q.map Prod.fst = (recL s 8 (wd s 6)).1)
/-- A record that has been boxed in the region. -/
def RG8 (w0 W : World) (m : Nat) (r : RC) (u : Value) : Prop := RcU W m 0 r u ∧ Below w0.heap.size w0 W ∧ w0.heap.size ≤ m
theorem RG8.below {w0 W W' : World} {m : Nat} {r : RC} {u : Value} (h : RG8 w0 W m r u) (hb : Below W.heap.size W W') : RG8 w0 W' m r u := ⟨h.1.below hb, bstep h.2.1 hb, h.2.2⟩
/-- An alloc, calls behind it or ahead of it, and the store. -/
theorem RG8.put {w0 W1 W2 : World} {r : RC} {u : Value} (h0 : Below w0.heap.size w0 W1) (ho : adOk r.g) (ha : Ads w0 u r.src) (h2 : Below (W1.alloc (.cells #[.int .i64 0, .bool false, .int .u8 0, .int .u8 0, .int .u8 0, .int .u8 0, .int .u8 0, .int .u8 0, .int .u8 0, .int .u8 0, .int .u8 0, .int .u8 0, .int .u8 0, .int .u8 0, .int .u8 0, .int .u8 0, .int .u8 0, .int .u8 0, .slice none 0 0] 64)).heap.size (W1.alloc (.cells #[.int .i64 0, .bool false, .int .u8 0, .int .u8 0, .int .u8 0, .int .u8 0, .int .u8 0, .int .u8 0, .int .u8 0, .int .u8 0, .int .u8 0, .int .u8 0, .int .u8 0, .int .u8 0, .int .u8 0, .int .u8 0, .int .u8 0, .int .u8 0, .slice none 0 0] 64)) W2) : RG8 w0 (aggW W2 W1.heap.size (rcC r u)) W1.heap.size r u := by
  have h1 : Below w0.heap.size w0 (W1.alloc (.cells #[.int .i64 0, .bool false, .int .u8 0, .int .u8 0, .int .u8 0, .int .u8 0, .int .u8 0, .int .u8 0, .int .u8 0, .int .u8 0, .int .u8 0, .int .u8 0, .int .u8 0, .int .u8 0, .int .u8 0, .int .u8 0, .int .u8 0, .int .u8 0, .slice none 0 0] 64)) := h0.alloc h0.size _
  have hb : Below w0.heap.size w0 (aggW W2 W1.heap.size (rcC r u)) := aggW_below (bstep h1 h2) h0.size _
  have hob := ObjAt.made W1 #[.int .i64 0, .bool false, .int .u8 0, .int .u8 0, .int .u8 0, .int .u8 0, .int .u8 0, .int .u8 0, .int .u8 0, .int .u8 0, .int .u8 0, .int .u8 0, .int .u8 0, .int .u8 0, .int .u8 0, .int .u8 0, .int .u8 0, .int .u8 0, .slice none 0 0] 64
  have hob2 := hob.below h2 hob.lt
  have hc := aggW_obj (L := (#[.int .i64 0, .bool false, .int .u8 0, .int .u8 0, .int .u8 0, .int .u8 0, .int .u8 0, .int .u8 0, .int .u8 0, .int .u8 0, .int .u8 0, .int .u8 0, .int .u8 0, .int .u8 0, .int .u8 0, .int .u8 0, .int .u8 0, .int .u8 0, .slice none 0 0] : Array Value).toList) (cs := rcC r u) (by simpa using hob2) (by rw [rcC_length ho]; rfl) (rcC_one ha.one)
  have hf : free? W2 W1.heap.size 0 19 = true := obj_free hob2 (by simp)
  exact ⟨⟨ho, hc.lt, aggW_row hf (rcC_length ho u), ha.below hb⟩, hb, h0.size⟩

theorem RG8.putd {w0 W1 W2 : World} {r : RC} {u : Value} (h0 : Below w0.heap.size w0 W1) (ho : adOk r.g) (ha : Ads w0 u r.src) (h2 : Below (W1.alloc (.cells #[.int .i64 0, .bool false, .int .u8 0, .int .u8 0, .int .u8 0, .int .u8 0, .int .u8 0, .int .u8 0, .int .u8 0, .int .u8 0, .int .u8 0, .int .u8 0, .int .u8 0, .int .u8 0, .int .u8 0, .int .u8 0, .int .u8 0, .int .u8 0, .slice none 0 0] 64)).drew.heap.size (W1.alloc (.cells #[.int .i64 0, .bool false, .int .u8 0, .int .u8 0, .int .u8 0, .int .u8 0, .int .u8 0, .int .u8 0, .int .u8 0, .int .u8 0, .int .u8 0, .int .u8 0, .int .u8 0, .int .u8 0, .int .u8 0, .int .u8 0, .int .u8 0, .int .u8 0, .slice none 0 0] 64)).drew W2) : RG8 w0 (aggW W2 W1.heap.size (rcC r u)) W1.heap.size r u :=
  RG8.put h0 ho ha (bstep (show Below (W1.alloc (.cells #[.int .i64 0, .bool false, .int .u8 0, .int .u8 0, .int .u8 0, .int .u8 0, .int .u8 0, .int .u8 0, .int .u8 0, .int .u8 0, .int .u8 0, .int .u8 0, .int .u8 0, .int .u8 0, .int .u8 0, .int .u8 0, .int .u8 0, .int .u8 0, .slice none 0 0] 64)).heap.size (W1.alloc (.cells #[.int .i64 0, .bool false, .int .u8 0, .int .u8 0, .int .u8 0, .int .u8 0, .int .u8 0, .int .u8 0, .int .u8 0, .int .u8 0, .int .u8 0, .int .u8 0, .int .u8 0, .int .u8 0, .int .u8 0, .int .u8 0, .int .u8 0, .int .u8 0, .slice none 0 0] 64)) (W1.alloc (.cells #[.int .i64 0, .bool false, .int .u8 0, .int .u8 0, .int .u8 0, .int .u8 0, .int .u8 0, .int .u8 0, .int .u8 0, .int .u8 0, .int .u8 0, .int .u8 0, .int .u8 0, .int .u8 0, .int .u8 0, .int .u8 0, .int .u8 0, .int .u8 0, .slice none 0 0] 64)).drew from ⟨rfl, rfl, rfl, Nat.le_refl _, fun _ _ => rfl⟩) h2)

end Go.Proofs.YtchbkamjmkfikaaGreat

/-
  The document's own Read of layer 8.
-/
namespace Go.Proofs.YtchbkamjmkfikaaGreat
open Go.RowKit
set_option linter.unusedVariables false
set_option linter.unusedSimpArgs false
attribute [local go_sem ↓] ld_addr st_addr bld_addr ld_tk st_tk bld_tk
attribute [local go_sem] ldr_addr str_addr ldr_tk str_tk

theorem qry_or (s : List UInt8) : (qry s).2 = 0 ∨ (qry s).1 = zeroT := by
  unfold qry
  repeat' split
  all_goals first | exact Or.inl rfl | exact Or.inr rfl
theorem qry_bad (s : List UInt8) (h : (qry s).2 ≠ 0) : qry s = (zeroT, (qry s).2) := by
  rcases qry_or s with h1 | h1
  · exact absurd h1 h
  · exact Prod.ext h1 rfl
/-- The result's cell and the zero talk. -/
structure QN (w W : World) (p : Nat) : Prop where
  res : ObjAt W w.heap.size #[.bool false, .int .i64 0, .int .i64 0, .int .i64 0, .bool false, .int .u8 0, .int .u8 0, .int .u8 0, .int .u8 0, .int .u8 0, .int .u8 0, .int .u8 0, .int .u8 0, .int .u8 0, .int .u8 0, .int .u8 0, .int .u8 0, .int .u8 0, .int .u8 0, .int .u8 0, .int .u8 0, .bool false, .int .i64 0, .int .i64 0, .slice none 0 0, .slice none 0 0] 28
  zer : ObjAt W p (tkC zeroT (.slice none 0 0) (.slice none 0 0)).toArray 28
  blw : Below w.heap.size w W
  ltp : w.heap.size < p
theorem QN.start (w : World) : QN w (aggW ((w.alloc (.cells #[.bool false, .int .i64 0, .int .i64 0, .int .i64 0, .bool false, .int .u8 0, .int .u8 0, .int .u8 0, .int .u8 0, .int .u8 0, .int .u8 0, .int .u8 0, .int .u8 0, .int .u8 0, .int .u8 0, .int .u8 0, .int .u8 0, .int .u8 0, .int .u8 0, .int .u8 0, .int .u8 0, .bool false, .int .i64 0, .int .i64 0, .slice none 0 0, .slice none 0 0] 28)).alloc (.cells #[.bool false, .int .i64 0, .int .i64 0, .int .i64 0, .bool false, .int .u8 0, .int .u8 0, .int .u8 0, .int .u8 0, .int .u8 0, .int .u8 0, .int .u8 0, .int .u8 0, .int .u8 0, .int .u8 0, .int .u8 0, .int .u8 0, .int .u8 0, .int .u8 0, .int .u8 0, .int .u8 0, .bool false, .int .i64 0, .int .i64 0, .slice none 0 0, .slice none 0 0] 28)) (w.heap.size + 1) (tkC zeroT (.slice none 0 0) (.slice none 0 0))) (w.heap.size + 1) := by
  have s1 : (w.alloc (.cells #[.bool false, .int .i64 0, .int .i64 0, .int .i64 0, .bool false, .int .u8 0, .int .u8 0, .int .u8 0, .int .u8 0, .int .u8 0, .int .u8 0, .int .u8 0, .int .u8 0, .int .u8 0, .int .u8 0, .int .u8 0, .int .u8 0, .int .u8 0, .int .u8 0, .int .u8 0, .int .u8 0, .bool false, .int .i64 0, .int .i64 0, .slice none 0 0, .slice none 0 0] 28)).heap.size = w.heap.size + 1 := by simp
  have h1 := ObjAt.made (w.alloc (.cells #[.bool false, .int .i64 0, .int .i64 0, .int .i64 0, .bool false, .int .u8 0, .int .u8 0, .int .u8 0, .int .u8 0, .int .u8 0, .int .u8 0, .int .u8 0, .int .u8 0, .int .u8 0, .int .u8 0, .int .u8 0, .int .u8 0, .int .u8 0, .int .u8 0, .int .u8 0, .int .u8 0, .bool false, .int .i64 0, .int .i64 0, .slice none 0 0, .slice none 0 0] 28)) #[.bool false, .int .i64 0, .int .i64 0, .int .i64 0, .bool false, .int .u8 0, .int .u8 0, .int .u8 0, .int .u8 0, .int .u8 0, .int .u8 0, .int .u8 0, .int .u8 0, .int .u8 0, .int .u8 0, .int .u8 0, .int .u8 0, .int .u8 0, .int .u8 0, .int .u8 0, .int .u8 0, .bool false, .int .i64 0, .int .i64 0, .slice none 0 0, .slice none 0 0] 28
  rw [s1] at h1
  exact ⟨aggW_other (ObjAt.alloc (ObjAt.made w _ _) _) _ (by omega), aggW_obj (L := (#[.bool false, .int .i64 0, .int .i64 0, .int .i64 0, .bool false, .int .u8 0, .int .u8 0, .int .u8 0, .int .u8 0, .int .u8 0, .int .u8 0, .int .u8 0, .int .u8 0, .int .u8 0, .int .u8 0, .int .u8 0, .int .u8 0, .int .u8 0, .int .u8 0, .int .u8 0, .int .u8 0, .bool false, .int .i64 0, .int .i64 0, .slice none 0 0, .slice none 0 0] : Array Value).toList) (by simpa using h1) rfl (tkC_one rfl rfl), aggW_below (((Below.refl _ _).alloc (Nat.le_refl _) _).alloc (by simp) _) (by omega) _, by omega⟩
theorem QN.below {w W W' : World} {p : Nat} (h : QN w W p) (hb : Below W.heap.size W W') : QN w W' p := ⟨h.res.below hb h.res.lt, h.zer.below hb h.zer.lt, bstep h.blw hb, h.ltp⟩
theorem QN.free {w W : World} {p : Nat} (h : QN w W p) : free? W w.heap.size 0 26 = true := obj_free h.res (by simp)
theorem QN.row {w W : World} {p : Nat} (h : QN w W p) : row? W p 0 26 = some (tkC zeroT (.slice none 0 0) (.slice none 0 0)) := obj_rowk (A := []) (M := tkC zeroT (.slice none 0 0) (.slice none 0 0)) (C := []) (by simpa using h.zer) rfl rfl
/-- What Read tells. -/
def ReadP (w : World) (s : List UInt8) (x : Ending) (w' : World) : Prop := ∃ us ur, x = .returned (.tuple #[.agg (tkC (readT s).1 us ur).toArray, .int .i64 (readT s).2]) ∧ Below w.heap.size w w' ∧ adOk (readT s).1.g ∧ AdsT w' us (readT s).1.src ∧ RcT w' ur (readT s).1.rcs
theorem QN.ret {w W : World} {p : Nat} (h : QN w W p) {s : List UInt8} {e : Int} (he : readT s = (zeroT, e)) :
    row? (aggW W w.heap.size (tkC zeroT (.slice none 0 0) (.slice none 0 0))) w.heap.size 0 26 = some (tkC zeroT (.slice none 0 0) (.slice none 0 0)) ∧ ReadP w s (.returned (.tuple #[.agg (tkC zeroT (.slice none 0 0) (.slice none 0 0)).toArray, .int .i64 e])) (aggW W w.heap.size (tkC zeroT (.slice none 0 0) (.slice none 0 0))) := by
  refine ⟨aggW_row h.free (tkC_length (t := zeroT) zeroA_ok _ _), _, _, by rw [he], aggW_below h.blw (Nat.le_refl _) _, by rw [he]; exact zeroA_ok, by rw [he]; exact AdsT.nil _, by rw [he]; exact RcT.nil _⟩
/-- The talk boxed. -/
theorem QN.talk {w W : World} {p : Nat} (h : QN w W p) : QT w (aggW (W.alloc (.cells #[.bool false, .int .i64 0, .int .i64 0, .int .i64 0, .bool false, .int .u8 0, .int .u8 0, .int .u8 0, .int .u8 0, .int .u8 0, .int .u8 0, .int .u8 0, .int .u8 0, .int .u8 0, .int .u8 0, .int .u8 0, .int .u8 0, .int .u8 0, .int .u8 0, .int .u8 0, .int .u8 0, .bool false, .int .i64 0, .int .i64 0, .slice none 0 0, .slice none 0 0] 28)) W.heap.size (tkC zeroT (.slice none 0 0) (.slice none 0 0))) W.heap.size zeroT (.slice none 0 0) (.slice none 0 0) p (tkC zeroT (.slice none 0 0) (.slice none 0 0)).toArray 28 := by
  have h1 := h.zer.lt
  have h2 := h.res.lt
  have hm := ObjAt.made W #[.bool false, .int .i64 0, .int .i64 0, .int .i64 0, .bool false, .int .u8 0, .int .u8 0, .int .u8 0, .int .u8 0, .int .u8 0, .int .u8 0, .int .u8 0, .int .u8 0, .int .u8 0, .int .u8 0, .int .u8 0, .int .u8 0, .int .u8 0, .int .u8 0, .int .u8 0, .int .u8 0, .bool false, .int .i64 0, .int .i64 0, .slice none 0 0, .slice none 0 0] 28
  exact ⟨aggW_other (h.res.alloc _) _ (by omega), ⟨aggW_obj (L := (#[.bool false, .int .i64 0, .int .i64 0, .int .i64 0, .bool false, .int .u8 0, .int .u8 0, .int .u8 0, .int .u8 0, .int .u8 0, .int .u8 0, .int .u8 0, .int .u8 0, .int .u8 0, .int .u8 0, .int .u8 0, .int .u8 0, .int .u8 0, .int .u8 0, .int .u8 0, .int .u8 0, .bool false, .int .i64 0, .int .i64 0, .slice none 0 0, .slice none 0 0] : Array Value).toList) (by simpa using hm) rfl (tkC_one rfl rfl), zeroA_ok⟩, aggW_below (h.blw.alloc (by omega) _) (by omega) _, h2, AdsT.nil _, RcT.nil _, aggW_other (h.zer.alloc _) _ (by omega), h.ltp, by omega⟩
theorem QT.n {w W : World} {m p : Nat} {t : TK} {us ur : Value} (h : QT w W m t us ur p (tkC zeroT (.slice none 0 0) (.slice none 0 0)).toArray 28) : QN w W p := ⟨h.res, h.more, h.blw, h.ltp⟩
theorem QT.retR {w W : World} {m p : Nat} {t : TK} {us ur : Value} {L : Array Value} {T : TypeId} (h : QT w W m t us ur p L T) {s : List UInt8} (he : readT s = (t, 0)) :
    row? (aggW W w.heap.size (tkC t us ur)) w.heap.size 0 26 = some (tkC t us ur) ∧ ReadP w s (.returned (.tuple #[.agg (tkC t us ur).toArray, .int .i64 0])) (aggW W w.heap.size (tkC t us ur)) := by
  obtain ⟨q1, q2, q3, q4⟩ := h.done
  refine ⟨q1, us, ur, by rw [he], q2, by rw [he]; exact h.tk.2, by rw [he]; exact q3, by rw [he]; exact q4⟩

theorem QT.nput {w W : World} {m p : Nat} {t : TK} {us ur : Value} (h : QT w W m t us ur p (tkC zeroT (.slice none 0 0) (.slice none 0 0)).toArray 28) (cs : List Value) : QN w (aggW W m cs) p := by
  have := h.lt
  exact ⟨aggW_other h.res _ (by omega), aggW_other h.more _ h.ne.symm, aggW_below h.blw (by omega) _, h.ltp⟩
theorem QT.nset {w W : World} {m p : Nat} {t : TK} {us ur : Value} (h : QT w W m t us ur p (tkC zeroT (.slice none 0 0) (.slice none 0 0)).toArray 28) (j : Nat) (v : Value) : QN w (W.setCell ⟨m, j, none⟩ v) p := by
  have := h.lt
  exact ⟨h.res.other _ _ (by simp; omega), h.more.other _ _ (by simpa using h.ne.symm), h.blw.setCell (p := ⟨m, j, none⟩) (by simp; omega) v, h.ltp⟩


end Go.Proofs.YtchbkamjmkfikaaGreat

