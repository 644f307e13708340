/-
  Texts joined: Mem, Fr.
-/
import Derived.Test.YtlkihfmojnghhaaAgg
import Derived.Test.YtlkihfmojnghhaaMg01
import Derived.Test.YtlkihfmojnghhaaMg27
import Derived.Test.YtlkihfmojnghhaaMg20
import Derived.Test.YtlkihfmojnghhaaIp
/-
  Objects in memory: made, kept, boxed, loaded whole.
-/
namespace Go.Proofs.Ytlkihfmojnghhaa
open Go.RowKit
set_option linter.unusedVariables false

theorem obj_ce {w : World} {b o : Nat} {L A C : List Value} {x : Value} {t : TypeId} (h : ObjAt w b L.toArray t) (e : L = A ++ (x :: C)) (ho : A.length = o) : w.cell? ⟨b, o, none⟩ = some x := by
  subst e ho
  rw [h.cell, List.getElem?_toArray, List.getElem?_append_right (Nat.le_refl _)]; simp
theorem obj_re {w : World} {b o n : Nat} {L A M C : List Value} {t : TypeId} (h : ObjAt w b L.toArray t) (e : L = A ++ (M ++ C)) (ho : A.length = o) (hn : M.length = n) : row? w b o n = some M := by subst e; exact obj_row h ho hn
theorem obj_keep {w w' : World} {b : Nat} {cs : Array Value} {t : TypeId} (h : ObjAt w b cs t) (hb : Below w.heap.size w w') : ObjAt w' b cs t := h.below hb h.lt
theorem bbox (w : World) (o : Obj) : Below w.heap.size w (w.alloc o) := (Below.refl _ _).alloc (Nat.le_refl _) o
theorem bbox2 (w : World) (o p : Obj) : Below w.heap.size w ((w.alloc o).alloc p) := (bbox w o).alloc (by simp) p
/-- A block boxed, and the result's cells behind it. -/
structure Bx (w W : World) (c : Array Value) (T : TypeId) (d : Array Value) (U : TypeId) : Prop where
  one : ObjAt W w.heap.size c T
  two : ObjAt W (w.heap.size + 1) d U
  blw : Below w.heap.size w W
theorem Bx.made (w : World) (c : Array Value) (T : TypeId) (d : Array Value) (U : TypeId) : Bx w ((w.alloc (.cells c T)).alloc (.cells d U)) c T d U := by
  refine ⟨(ObjAt.made w _ _).alloc _, ?_, bbox2 _ _ _⟩
  have := ObjAt.made (w.alloc (.cells c T)) d U
  rw [show (w.alloc (.cells c T)).heap.size = w.heap.size + 1 by simp] at this
  exact this
theorem Bx.below {w W W' : World} {c d : Array Value} {T U : TypeId} (h : Bx w W c T d U) (hb : Below W.heap.size W W') : Bx w W' c T d U := ⟨obj_keep h.one hb, obj_keep h.two hb, bstep h.blw hb⟩
theorem Bx.free {w W : World} {c d : Array Value} {T U : TypeId} (h : Bx w W c T d U) (n : Nat) (hn : n ≤ d.size) : free? W (w.heap.size + 1) 0 n = true := obj_free h.two (by omega)
theorem Bx.done {w W : World} {c d : Array Value} {T U : TypeId} (h : Bx w W c T d U) (L : List Value) (hL : L.length = d.size) : row? (aggW W (w.heap.size + 1) L) (w.heap.size + 1) 0 d.size = some L ∧ Below w.heap.size w (aggW W (w.heap.size + 1) L) :=
  ⟨aggW_row (h.free _ (Nat.le_refl _)) hL, aggW_below h.blw (by omega) _⟩
theorem ret_boolF {a b : Bool} (h : a = b) : Ending.returned (.bool a) = .returned (.bool b) := by rw [h]

theorem obj_free_at {w : World} {b : Nat} {cs : Array Value} {t : TypeId} (h : ObjAt w b cs t) (o n : Nat) (hn : o + n ≤ cs.size) : free? w b o n = true :=
  free_of fun j hj => ⟨by rw [h.cell (o + j), Array.getElem?_eq_getElem (by omega)]; rfl, h.free (o + j)⟩
theorem fmade (W : World) (Z : Array Value) (U : TypeId) (n : Nat) (h : n = Z.size) : free? (W.alloc (.cells Z U)) W.heap.size 0 n = true := free_made W Z U n (Nat.le_of_eq h)
theorem keepNew {W : World} {b : Nat} {c Z : Array Value} {T U : TypeId} {L : List Value} (h : ObjAt W b c T) : ObjAt (aggW (W.alloc (.cells Z U)) W.heap.size L) b c T := aggW_other (h.alloc _) _ (Nat.ne_of_lt h.lt)
theorem newObj (W : World) (Z : Array Value) (U : TypeId) {L : List Value} (hl : L.length = Z.size) (h1 : ∀ v ∈ L, v.oneCell' = true) : ObjAt (aggW (W.alloc (.cells Z U)) W.heap.size L) W.heap.size L.toArray U :=
  aggW_obj (L := Z.toList) (by simpa using ObjAt.made W Z U) (by simpa using hl) h1
theorem newBlw (W : World) (o : Obj) (L : List Value) : Below W.heap.size W (aggW (W.alloc o) W.heap.size L) := aggW_below (bbox W o) (Nat.le_refl _) _
theorem resDone {w W : World} {n : Nat} {c : Array Value} {T : TypeId} (h : ObjAt W n c T) (hb : Below w.heap.size w W) (hn : w.heap.size ≤ n) (L : List Value) (hL : L.length = c.size) : row? (aggW W n L) n 0 c.size = some L ∧ Below w.heap.size w (aggW W n L) :=
  ⟨aggW_row (obj_free h (Nat.le_refl _)) hL, aggW_below hb hn _⟩
end Go.Proofs.Ytlkihfmojnghhaa

/-
  What frames say, and packets of the frames' own kind, in memory.
-/
namespace Go.Proofs.Ytlkihfmojnghhaa
open Go.RowKit
set_option linter.unusedVariables false
set_option linter.unusedSimpArgs false

def sdC (s : SD) (us ur : Value) : List Value := [.int .i64 s.kind, .int .i64 s.vl] ++ (adC s.fr ++ (adC s.tw ++ (tkC s.tk us ur ++ [.int .i64 s.pro, .int .i64 s.hop, .string (Str s.da)])))
def pkC (p : PK) : List Value := adC p.fr ++ (adC p.tw ++ [.int .i64 p.pro, .int .i64 p.hop, .bool p.al, .string (Str p.bd)])
theorem sdC_length {s : SD} (h1 : adOk s.fr) (h2 : adOk s.tw) (h3 : adOk s.tk.g) (us ur : Value) : (sdC s us ur).length = 65 := by unfold sdC; simp [adC_length h1, adC_length h2, tkC_length h3]
theorem pkC_length {p : PK} (h : p.ok) : (pkC p).length = 38 := by unfold pkC; simp [adC_length h.1, adC_length h.2]
/-- What is read of a packet. -/
def PV (W : World) (b : Nat) (p : PK) : Prop := row? W b 0 38 = some (pkC p) ∧ row? W b 0 17 = some (adC p.fr) ∧ row? W b 17 17 = some (adC p.tw) ∧ W.cell? ⟨b, 17, none⟩ = some (.bool p.tw.1) ∧ W.cell? ⟨b, 34, none⟩ = some (.int .i64 p.pro) ∧ W.cell? ⟨b, 35, none⟩ = some (.int .i64 p.hop) ∧ W.cell? ⟨b, 36, none⟩ = some (.bool p.al) ∧ W.cell? ⟨b, 37, none⟩ = some (.string (Str p.bd))
theorem PV.of {W : World} {b : Nat} {p : PK} {T : TypeId} (h : ObjAt W b (pkC p).toArray T) (ho : p.ok) : PV W b p := by
  have l1 := adC_length ho.1
  have l2 := adC_length ho.2
  refine ⟨obj_re h (A := []) (C := []) (by simp) rfl (pkC_length ho), obj_re h (A := []) (M := adC p.fr) rfl rfl l1, obj_re h (A := adC p.fr) (M := adC p.tw) rfl l1 l2, obj_ce h (A := adC p.fr) (by unfold pkC; simp only [adC, addrC, List.cons_append]; rfl) l1, ?_, ?_, ?_, ?_⟩
  · exact obj_ce h (A := adC p.fr ++ adC p.tw) (by unfold pkC; rw [List.append_assoc]) (by simp [l1, l2])
  · exact obj_ce h (A := adC p.fr ++ (adC p.tw ++ [.int .i64 p.pro])) (by unfold pkC; simp only [List.append_assoc]; rfl) (by simp [l1, l2])
  · exact obj_ce h (A := adC p.fr ++ (adC p.tw ++ [.int .i64 p.pro, .int .i64 p.hop])) (by unfold pkC; simp only [List.append_assoc]; rfl) (by simp [l1, l2])
  · exact obj_ce h (A := adC p.fr ++ (adC p.tw ++ [.int .i64 p.pro, .int .i64 p.hop, .bool p.al])) (by unfold pkC; simp only [List.append_assoc]; rfl) (by simp [l1, l2])
/-- What is read of what a frame says. -/
def SV (W : World) (b : Nat) (s : SD) (us ur : Value) : Prop := (row? W b 0 65 = some (sdC s us ur) ∧ row? W b 2 17 = some (adC s.fr) ∧ row? W b 19 17 = some (adC s.tw) ∧ row? W b 36 26 = some (tkC s.tk us ur)) ∧ (W.cell? ⟨b, 0, none⟩ = some (.int .i64 s.kind) ∧ W.cell? ⟨b, 1, none⟩ = some (.int .i64 s.vl) ∧ W.cell? ⟨b, 2, none⟩ = some (.bool s.fr.1) ∧ W.cell? ⟨b, 19, none⟩ = some (.bool s.tw.1)) ∧ (W.cell? ⟨b, 36, none⟩ = some (.bool s.tk.v6) ∧ W.cell? ⟨b, 37, none⟩ = some (.int .i64 s.tk.ver) ∧ W.cell? ⟨b, 38, none⟩ = some (.int .i64 s.tk.kind)) ∧ W.cell? ⟨b, 62, none⟩ = some (.int .i64 s.pro) ∧ W.cell? ⟨b, 63, none⟩ = some (.int .i64 s.hop) ∧ W.cell? ⟨b, 64, none⟩ = some (.string (Str s.da))
theorem SV.of {W : World} {b : Nat} {s : SD} {us ur : Value} {T : TypeId} (h : ObjAt W b (sdC s us ur).toArray T) (h1 : adOk s.fr) (h2 : adOk s.tw) (h3 : adOk s.tk.g) : SV W b s us ur := by
  have l1 := adC_length h1
  have l2 := adC_length h2
  have l3 := tkC_length h3 us ur
  refine ⟨⟨obj_re h (A := []) (C := []) (by simp) rfl (sdC_length h1 h2 h3 _ _), obj_re h (A := [.int .i64 s.kind, .int .i64 s.vl]) (M := adC s.fr) rfl rfl l1, obj_re h (A := [.int .i64 s.kind, .int .i64 s.vl] ++ adC s.fr) (M := adC s.tw) (by unfold sdC; simp only [List.append_assoc]; rfl) (by simp [l1]) l2, obj_re h (A := [.int .i64 s.kind, .int .i64 s.vl] ++ (adC s.fr ++ adC s.tw)) (M := tkC s.tk us ur) (by unfold sdC; simp only [List.append_assoc]; rfl) (by simp [l1, l2]) l3⟩, ⟨obj_ce h (A := []) rfl rfl, obj_ce h (A := [.int .i64 s.kind]) rfl rfl, obj_ce h (A := [.int .i64 s.kind, .int .i64 s.vl]) (by unfold sdC; simp only [adC, addrC, List.cons_append]; rfl) rfl, ?_⟩, ⟨?_, ?_, ?_⟩, ?_, ?_, ?_⟩
  · exact obj_ce h (A := [.int .i64 s.kind, .int .i64 s.vl] ++ adC s.fr) (by unfold sdC; simp only [adC, addrC, List.cons_append, List.append_assoc, List.nil_append]; rfl) (by simp [l1])
  · exact obj_ce h (A := [.int .i64 s.kind, .int .i64 s.vl] ++ (adC s.fr ++ adC s.tw)) (by unfold sdC tkC; simp only [List.append_assoc]; rfl) (by simp [l1, l2])
  · exact obj_ce h (A := [.int .i64 s.kind, .int .i64 s.vl] ++ (adC s.fr ++ (adC s.tw ++ [.bool s.tk.v6]))) (by unfold sdC tkC; simp only [List.append_assoc]; rfl) (by simp [l1, l2])
  · exact obj_ce h (A := [.int .i64 s.kind, .int .i64 s.vl] ++ (adC s.fr ++ (adC s.tw ++ [.bool s.tk.v6, .int .i64 s.tk.ver]))) (by unfold sdC tkC; simp only [List.append_assoc]; rfl) (by simp [l1, l2])
  · exact obj_ce h (A := [.int .i64 s.kind, .int .i64 s.vl] ++ (adC s.fr ++ (adC s.tw ++ tkC s.tk us ur))) (by unfold sdC; simp only [List.append_assoc]; rfl) (by simp [l1, l2, l3])
  · exact obj_ce h (A := [.int .i64 s.kind, .int .i64 s.vl] ++ (adC s.fr ++ (adC s.tw ++ (tkC s.tk us ur ++ [.int .i64 s.pro])))) (by unfold sdC; simp only [List.append_assoc]; rfl) (by simp [l1, l2, l3])
  · exact obj_ce h (A := [.int .i64 s.kind, .int .i64 s.vl] ++ (adC s.fr ++ (adC s.tw ++ (tkC s.tk us ur ++ [.int .i64 s.pro, .int .i64 s.hop])))) (by unfold sdC; simp only [List.append_assoc]; rfl) (by simp [l1, l2, l3])
/-- Said by value. -/
def Sds (w : World) (cs : List Value) (s : SD) : Prop := s.ok ∧ s.da.length ≤ maxLen ∧ ∃ us ur, cs = sdC s us ur ∧ Ads w us s.tk.src ∧ Rcs w ur s.tk.rcs
theorem Sds.below {w w' : World} {cs : List Value} {s : SD} (h : Sds w cs s) (hb : Below w.heap.size w w') : Sds w' cs s := by
  obtain ⟨h1, h2, us, ur, h3, h4, h5⟩ := h
  exact ⟨h1, h2, us, ur, h3, h4.below hb, h5.below hb⟩
theorem str_tk_at (b o : Nat) (cs : Array Value) (w : World) : (aggSt 35 ⟨b, o, none⟩ (.agg cs)).run Try.prog w = match free? w b o 26 && fok cs 26 with | true => .ok () (aggO w b o cs.toList) | false => aggStSlowO 35 b o (.agg cs) w :=
  st_run_at (by kernel_rfl) b o cs w
end Go.Proofs.Ytlkihfmojnghhaa

