/- A part of the proof. -/
import Derived.Test.YtlbdehegknehiaaGreatMg01
import Derived.Test.YtlbdehegknehiaaGreatMg07
namespace Go.Proofs.YtlbdehegknehiaaGreat
open Go.RowKit
set_option linter.unusedVariables false
structure Eth where
  to : List UInt8
  fr : List UInt8
  tg : Bool
  vl : Int
  pr : Int
  ty : Int
  bd : List UInt8
def Eth.ok (e : Eth) : Prop := e.to.length = 6 ∧ e.fr.length = 6
def ethC (e : Eth) : List Value := B8 e.to ++ (B8 e.fr ++ [.bool e.tg, .int .i64 e.vl, .int .i64 e.pr, .int .i64 e.ty, .string (Str e.bd)])
def Eth.good (e : Eth) : Bool := goodEV e.tg e.vl e.pr e.ty e.bd.length
def Eth.wrt (e : Eth) : List UInt8 := wrtL e.to e.fr e.tg e.vl e.pr e.ty e.bd
theorem ethC_length {e : Eth} (h : e.ok) : (ethC e).length = 17 := by
  obtain ⟨h1, h2⟩ := h
  simp [ethC, B8_length, h1, h2]
theorem ethC_one (e : Eth) : ∀ x ∈ ethC e, x.oneCell' = true := by
  intro x hx
  simp only [ethC, List.mem_append, List.mem_cons, List.not_mem_nil, or_false] at hx
  rcases hx with hx | hx | rfl | rfl | rfl | rfl | rfl
  · exact B8_one _ x hx
  · exact B8_one _ x hx
  all_goals rfl
theorem fok_eth {e : Eth} (h : e.ok) : fok (ethC e).toArray 17 = true := by
  have h1 : (ethC e).toArray.all (·.oneCell') = true := all_oneCell_toArray (ethC_one e)
  simp only [fok, h1, Bool.and_true]
  simp [ethC_length h]
def EthAt (W : World) (b : Nat) (e : Eth) : Prop := ObjAt W b (ethC e).toArray 54
theorem EthAt.c {W : World} {b : Nat} {e : Eth} (h : EthAt W b e) (ho : e.ok) (j : Nat) (x : Value) (hx : [Value.bool e.tg, .int .i64 e.vl, .int .i64 e.pr, .int .i64 e.ty, .string (Str e.bd)][j]? = some x) : W.cell? ⟨b, 12 + j, none⟩ = some x := by
  rw [ObjAt.cell h, List.getElem?_toArray]
  unfold ethC
  rw [List.getElem?_append_right (by rw [B8_length, ho.1]; omega), List.getElem?_append_right (by rw [B8_length, B8_length, ho.1, ho.2]; omega), B8_length, B8_length, ho.1, ho.2, show 12 + j - 6 - 6 = j by omega]
  exact hx
theorem EthAt.tg {W : World} {b : Nat} {e : Eth} (h : EthAt W b e) (ho : e.ok) : W.cell? ⟨b, 12, none⟩ = some (.bool e.tg) := h.c ho 0 _ rfl
theorem EthAt.vl {W : World} {b : Nat} {e : Eth} (h : EthAt W b e) (ho : e.ok) : W.cell? ⟨b, 13, none⟩ = some (.int .i64 e.vl) := h.c ho 1 _ rfl
theorem EthAt.pr {W : World} {b : Nat} {e : Eth} (h : EthAt W b e) (ho : e.ok) : W.cell? ⟨b, 14, none⟩ = some (.int .i64 e.pr) := h.c ho 2 _ rfl
theorem EthAt.ty {W : World} {b : Nat} {e : Eth} (h : EthAt W b e) (ho : e.ok) : W.cell? ⟨b, 15, none⟩ = some (.int .i64 e.ty) := h.c ho 3 _ rfl
theorem EthAt.bd {W : World} {b : Nat} {e : Eth} (h : EthAt W b e) (ho : e.ok) : W.cell? ⟨b, 16, none⟩ = some (.string (Str e.bd)) := h.c ho 4 _ rfl
theorem EthAt.row {W : World} {b : Nat} {e : Eth} (h : EthAt W b e) (ho : e.ok) : row? W b 0 17 = some (ethC e) :=
  obj_row (A := []) (M := ethC e) (C := []) (by simpa [EthAt] using h) rfl (ethC_length ho)
theorem EthAt.rto {W : World} {b : Nat} {e : Eth} (h : EthAt W b e) (ho : e.ok) : row? W b 0 6 = some (B8 e.to) :=
  obj_row (A := []) (M := B8 e.to) (C := B8 e.fr ++ [.bool e.tg, .int .i64 e.vl, .int .i64 e.pr, .int .i64 e.ty, .string (Str e.bd)]) (by simpa [EthAt, ethC] using h) rfl (by rw [B8_length, ho.1])
theorem EthAt.rfr {W : World} {b : Nat} {e : Eth} (h : EthAt W b e) (ho : e.ok) : row? W b 6 6 = some (B8 e.fr) :=
  obj_row (A := B8 e.to) (M := B8 e.fr) (C := [.bool e.tg, .int .i64 e.vl, .int .i64 e.pr, .int .i64 e.ty, .string (Str e.bd)]) (by simpa [EthAt, ethC] using h) (by rw [B8_length, ho.1]) (by rw [B8_length, ho.2])
theorem EthAt.free {W : World} {b : Nat} {e : Eth} (h : EthAt W b e) (ho : e.ok) : free? W b 0 17 = true := obj_free h (by simp [ethC_length ho])
theorem EthAt.frz {W : World} {b : Nat} {e : Eth} (h : EthAt W b e) (j : Nat) : W.frozen? ⟨b, j, none⟩ = false := ObjAt.free h j
theorem EthAt.made (w : World) (e : Eth) : EthAt (w.alloc (.cells (ethC e).toArray 54)) w.heap.size e := ObjAt.made w _ _
theorem EthAt.below {W W' : World} {b : Nat} {e : Eth} (h : EthAt W b e) (hb : Below W.heap.size W W') : EthAt W' b e := ObjAt.below h hb h.lt
def EB (w W : World) (e : Eth) : Prop := EthAt W w.heap.size e ∧ Below w.heap.size w W
theorem EB.made (w : World) (e : Eth) : EB w (w.alloc (.cells (ethC e).toArray 54)) e := ⟨EthAt.made w e, (Below.refl _ _).alloc (Nat.le_refl _) _⟩
theorem EB.keep {w W W' : World} {e : Eth} (h : EB w W e) (hb : Below W.heap.size W W') : EB w W' e := ⟨h.1.below hb, bstep h.2 hb⟩
theorem EB.drewN {w W : World} {e : Eth} (h : EB w W e) (n : Nat) : EB w (W.drewN n) e := h.keep (bdrewN (Below.refl _ _) n)
theorem EB.lt {w W : World} {e : Eth} (h : EB w W e) : w.heap.size < W.heap.size := h.1.lt
theorem bld_eth (p : Array (Nat × Value)) : Instr.build 54 p = aggBuild 54 p := rfl
theorem ld_eth (a : Addr) : loadVar 54 a = aggLd 54 a := rfl
theorem st_eth (a : Addr) (v : Value) : storeVar 54 a v = aggSt 54 a v := rfl
theorem ldr_eth (b o : Nat) (w : World) : (aggLd 54 ⟨b, o, none⟩).run Tryz.prog w = match row? w b o 17 with | some cs => .ok (.agg cs.toArray) w | none => aggLdSlow 54 b o w :=
  ld_run Tryz.underlying54 rfl (by kernel_rfl) b o w
theorem str_eth (b : Nat) (cs : Array Value) (w : World) : (aggSt 54 ⟨b, 0, none⟩ (.agg cs)).run Tryz.prog w = match free? w b 0 17 && fok cs 17 with | true => .ok () (aggW w b cs.toList) | false => aggStSlow 54 b 0 (.agg cs) w :=
  st_run (by kernel_rfl) b cs w
end Go.Proofs.YtlbdehegknehiaaGreat
