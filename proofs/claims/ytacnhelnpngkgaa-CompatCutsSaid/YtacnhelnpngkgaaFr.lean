/-
  What frames say, and packets of the frames' own kind, in memory.
-/
import Derived.Test.YtacnhelnpngkgaaMg28
import Derived.Test.YtacnhelnpngkgaaMg20
import Derived.Test.YtacnhelnpngkgaaIp
import Derived.Test.YtacnhelnpngkgaaMg27
namespace Go.Proofs.Ytacnhelnpngkgaa
open Go.RowKit
set_option linter.unusedVariables false
set_option linter.unusedSimpArgs false

def sdC (s : SD) (us ur : Value) : List Value := [.int .i64 s.kind, .int .i64 s.vl] ++ (adC s.fr ++ (adC s.tw ++ (tkC s.tk us ur ++ [.int .i64 s.pro, .int .i64 s.hop, .string (Str s.da)])))
def pkC (p : PK) : List Value := adC p.fr ++ (adC p.tw ++ [.int .i64 p.pro, .int .i64 p.hop, .bool p.al, .string (Str p.bd)])
theorem sdC_length {s : SD} (h1 : adOk s.fr) (h2 : adOk s.tw) (h3 : adOk s.tk.g) (us ur : Value) : (sdC s us ur).length = 65 := by unfold sdC; simp [adC_length h1, adC_length h2, tkC_length h3]
theorem pkC_length {p : PK} (h : p.ok) : (pkC p).length = 38 := by unfold pkC; simp [adC_length h.1, adC_length h.2]
/-- What is read of a packet. -/
def PV (W : World) (b : Nat) (p : PK) : Prop := row? W b 0 38 = some (pkC p) ∧ row? W b 0 17 = some (adC p.fr) ∧ row? W b 17 17 = some (adC p.tw) ∧ W.cell? ⟨b, 17, none⟩ = some (.bool p.tw.1) ∧ W.cell? ⟨b, 34, none⟩ = some (.int .i64 p.pro) ∧ W.cell? ⟨b, 35, none⟩ = some (.int .i64 p.hop) ∧ W.cell? ⟨b, 36, none⟩ = some (.bool p.al) ∧ W.cell? ⟨b, 37, none⟩ = some (.string (Str p.bd))
theorem PV.of {W : World} {b : Nat} {p : PK} {T : TypeId} (h : ObjAt W b (pkC p).toArray T) (ho : p.ok) : PV W b p := by
  have l1 := adC_length ho.1
  have l2 := adC_length ho.2
  refine ⟨obj_re h (A := []) (C := []) (by simp) rfl (pkC_length ho), obj_re h (A := []) (M := adC p.fr) rfl rfl l1, obj_re h (A := adC p.fr) (M := adC p.tw) rfl l1 l2, obj_ce h (A := adC p.fr) (by unfold pkC; simp only [adC, addrC, List.cons_append]; rfl) l1, ?_, ?_, ?_, ?_⟩
  · exact obj_ce h (A := adC p.fr ++ adC p.tw) (by unfold pkC; rw [List.append_assoc]) (by simp [l1, l2])
  · exact obj_ce h (A := adC p.fr ++ (adC p.tw ++ [.int .i64 p.pro])) (by unfold pkC; simp only [List.append_assoc]; rfl) (by simp [l1, l2])
  · exact obj_ce h (A := adC p.fr ++ (adC p.tw ++ [.int .i64 p.pro, .int .i64 p.hop])) (by unfold pkC; simp only [List.append_assoc]; rfl) (by simp [l1, l2])
  · exact obj_ce h (A := adC p.fr ++ (adC p.tw ++ [.int .i64 p.pro, .int .i64 p.hop, .bool p.al])) (by unfold pkC; simp only [List.append_assoc]; rfl) (by simp [l1, l2])
/-- What is read of what a frame says. -/
def SV (W : World) (b : Nat) (s : SD) (us ur : Value) : Prop := (row? W b 0 65 = some (sdC s us ur) ∧ row? W b 2 17 = some (adC s.fr) ∧ row? W b 19 17 = some (adC s.tw) ∧ row? W b 36 26 = some (tkC s.tk us ur)) ∧ (W.cell? ⟨b, 0, none⟩ = some (.int .i64 s.kind) ∧ W.cell? ⟨b, 1, none⟩ = some (.int .i64 s.vl) ∧ W.cell? ⟨b, 2, none⟩ = some (.bool s.fr.1) ∧ W.cell? ⟨b, 19, none⟩ = some (.bool s.tw.1)) ∧ (W.cell? ⟨b, 36, none⟩ = some (.bool s.tk.v6) ∧ W.cell? ⟨b, 37, none⟩ = some (.int .i64 s.tk.ver) ∧ W.cell? ⟨b, 38, none⟩ = some (.int .i64 s.tk.kind)) ∧ W.cell? ⟨b, 62, none⟩ = some (.int .i64 s.pro) ∧ W.cell? ⟨b, 63, none⟩ = some (.int .i64 s.hop) ∧ W.cell? ⟨b, 64, none⟩ = some (.string (Str s.da))
theorem SV.of {W : World} {b : Nat} {s : SD} {us ur : Value} {T : TypeId} (h : ObjAt W b (sdC s us ur).toArray T) (h1 : adOk s.fr) (h2 : adOk s.tw) (h3 : adOk s.tk.g) : SV W b s us ur := by
  have l1 := adC_length h1
  have l2 := adC_length h2
  have l3 := tkC_length h3 us ur
  refine ⟨⟨obj_re h (A := []) (C := []) (by simp) rfl (sdC_length h1 h2 h3 _ _), obj_re h (A := [.int .i64 s.kind, .int .i64 s.vl]) (M := adC s.fr) rfl rfl l1, obj_re h (A := [.int .i64 s.kind, .int .i64 s.vl] ++ adC s.fr) (M := adC s.tw) (by unfold sdC; simp only [List.append_assoc]; rfl) (by simp [l1]) l2, obj_re h (A := [.int .i64 s.kind, .int .i64 s.vl] ++ (adC s.fr ++ adC s.tw)) (M := tkC s.tk us ur) (by unfold sdC; simp only [List.append_assoc]; rfl) (by simp [l1, l2]) l3⟩, ⟨obj_ce h (A := []) rfl rfl, obj_ce h (A := [.int .i64 s.kind]) rfl rfl, obj_ce h (A := [.int .i64 s.kind, .int .i64 s.vl]) (by unfold sdC; simp only [adC, addrC, List.cons_append]; rfl) rfl, ?_⟩, ⟨?_, ?_, ?_⟩, ?_, ?_, ?_⟩
  · exact obj_ce h (A := [.int .i64 s.kind, .int .i64 s.vl] ++ adC s.fr) (by unfold sdC; simp only [adC, addrC, List.cons_append, List.append_assoc, List.nil_append]; rfl) (by simp [l1])
  · exact obj_ce h (A := [.int .i64 s.kind, .int .i64 s.vl] ++ (adC s.fr ++ adC s.tw)) (by unfold sdC tkC; simp only [List.append_assoc]; rfl) (by simp [l1, l2])
  · exact obj_ce h (A := [.int .i64 s.kind, .int .i64 s.vl] ++ (adC s.fr ++ (adC s.tw ++ [.bool s.tk.v6]))) (by unfold sdC tkC; simp only [List.append_assoc]; rfl) (by simp [l1, l2])
  · exact obj_ce h (A := [.int .i64 s.kind, .int .i64 s.vl] ++ (adC s.fr ++ (adC s.tw ++ [.bool s.tk.v6, .int .i64 s.tk.ver]))) (by unfold sdC tkC; simp only [List.append_assoc]; rfl) (by simp [l1, l2])
  · exact obj_ce h (A := [.int .i64 s.kind, .int .i64 s.vl] ++ (adC s.fr ++ (adC s.tw ++ tkC s.tk us ur))) (by unfold sdC; simp only [List.append_assoc]; rfl) (by simp [l1, l2, l3])
  · exact obj_ce h (A := [.int .i64 s.kind, .int .i64 s.vl] ++ (adC s.fr ++ (adC s.tw ++ (tkC s.tk us ur ++ [.int .i64 s.pro])))) (by unfold sdC; simp only [List.append_assoc]; rfl) (by simp [l1, l2, l3])
  · exact obj_ce h (A := [.int .i64 s.kind, .int .i64 s.vl] ++ (adC s.fr ++ (adC s.tw ++ (tkC s.tk us ur ++ [.int .i64 s.pro, .int .i64 s.hop])))) (by unfold sdC; simp only [List.append_assoc]; rfl) (by simp [l1, l2, l3])
/-- Said by value. -/
def Sds (w : World) (cs : List Value) (s : SD) : Prop := s.ok ∧ s.da.length ≤ maxLen ∧ ∃ us ur, cs = sdC s us ur ∧ Ads w us s.tk.src ∧ Rcs w ur s.tk.rcs
theorem Sds.below {w w' : World} {cs : List Value} {s : SD} (h : Sds w cs s) (hb : Below w.heap.size w w') : Sds w' cs s := by
  obtain ⟨h1, h2, us, ur, h3, h4, h5⟩ := h
  exact ⟨h1, h2, us, ur, h3, h4.below hb, h5.below hb⟩
theorem str_tk_at (b o : Nat) (cs : Array Value) (w : World) : (aggSt 28 ⟨b, o, none⟩ (.agg cs)).run Try.prog w = match free? w b o 26 && fok cs 26 with | true => .ok () (aggO w b o cs.toList) | false => aggStSlowO 28 b o (.agg cs) w :=
  st_run_at (by kernel_rfl) b o cs w
end Go.Proofs.Ytacnhelnpngkgaa
