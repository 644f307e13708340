/-
  A packet of IPv6 in memory, and how it is loaded and stored whole.
-/
import Derived.Test.YtkmnnkklbgnfpaaIp
namespace Go.Proofs.Ytkmnnkklbgnfpaa
open Go.RowKit
set_option linter.unusedVariables false

/-- A packet in block b. -/
def IqAt (W : World) (b : Nat) (p : Ip) : Prop := ObjAt W b (ipC p).toArray 26
theorem IqAt.n {W : World} {b : Nat} {p : Ip} (h : IqAt W b p) (j : Nat) (x : Value) (hx : [Value.int .i64 p.tos, .int .i64 p.id, .int .i64 p.ttl, .int .i64 p.pro][j]? = some x) : W.cell? ⟨b, j, none⟩ = some x := by
  have hj : j < 4 := (List.getElem?_eq_some_iff.1 hx).1
  rw [ObjAt.cell h, List.getElem?_toArray]
  unfold ipC
  rw [List.getElem?_append_left hj]
  exact hx
theorem IqAt.tos {W : World} {b : Nat} {p : Ip} (h : IqAt W b p) : W.cell? ⟨b, 0, none⟩ = some (.int .i64 p.tos) := h.n 0 _ rfl
theorem IqAt.id {W : World} {b : Nat} {p : Ip} (h : IqAt W b p) : W.cell? ⟨b, 1, none⟩ = some (.int .i64 p.id) := h.n 1 _ rfl
theorem IqAt.ttl {W : World} {b : Nat} {p : Ip} (h : IqAt W b p) : W.cell? ⟨b, 2, none⟩ = some (.int .i64 p.ttl) := h.n 2 _ rfl
theorem IqAt.pro {W : World} {b : Nat} {p : Ip} (h : IqAt W b p) : W.cell? ⟨b, 3, none⟩ = some (.int .i64 p.pro) := h.n 3 _ rfl
theorem IqAt.f6 {W : World} {b : Nat} {p : Ip} (h : IqAt W b p) : W.cell? ⟨b, 4, none⟩ = some (.bool p.f6) := by
  rw [ObjAt.cell h, List.getElem?_toArray]; rfl
theorem IqAt.t6 {W : World} {b : Nat} {p : Ip} (h : IqAt W b p) (ho : p.ok) : W.cell? ⟨b, 21, none⟩ = some (.bool p.t6) := by
  rw [ObjAt.cell h, List.getElem?_toArray]
  unfold ipC
  rw [List.getElem?_append_right (by simp), List.getElem?_append_right (by simp [addrC_length, ho.1])]
  simp [ho.1, addrC, B8_length]
theorem IqAt.e {W : World} {b : Nat} {p : Ip} (h : IqAt W b p) (ho : p.ok) (j : Nat) (x : Value) (hx : [Value.bool p.al, .string (Str p.bd)][j]? = some x) : W.cell? ⟨b, 38 + j, none⟩ = some x := by
  rw [ObjAt.cell h, List.getElem?_toArray]
  unfold ipC
  rw [List.getElem?_append_right (by simp; omega), List.getElem?_append_right (by simp [addrC_length, ho.1]; omega), List.getElem?_append_right (by simp [addrC_length, ho.1, ho.2]; omega)]
  simp only [List.length_cons, List.length_nil, addrC_length, ho.1, ho.2]
  rw [show 38 + j - (0 + 1 + 1 + 1 + 1) - (16 + 1) - (16 + 1) = j by omega]
  exact hx
theorem IqAt.al {W : World} {b : Nat} {p : Ip} (h : IqAt W b p) (ho : p.ok) : W.cell? ⟨b, 38, none⟩ = some (.bool p.al) := h.e ho 0 _ rfl
theorem IqAt.bd {W : World} {b : Nat} {p : Ip} (h : IqAt W b p) (ho : p.ok) : W.cell? ⟨b, 39, none⟩ = some (.string (Str p.bd)) := h.e ho 1 _ rfl
theorem IqAt.row {W : World} {b : Nat} {p : Ip} (h : IqAt W b p) (ho : p.ok) : row? W b 0 40 = some (ipC p) :=
  obj_row (A := []) (M := ipC p) (C := []) (by simpa [IqAt] using h) rfl (ipC_length ho)
theorem IqAt.rfr {W : World} {b : Nat} {p : Ip} (h : IqAt W b p) (ho : p.ok) : row? W b 4 17 = some (addrC p.f6 p.fr) :=
  obj_row (A := [.int .i64 p.tos, .int .i64 p.id, .int .i64 p.ttl, .int .i64 p.pro]) (M := addrC p.f6 p.fr) (C := addrC p.t6 p.to ++ [.bool p.al, .string (Str p.bd)]) (by simpa [IqAt, ipC] using h) rfl (by rw [addrC_length, ho.1])
theorem IqAt.rto {W : World} {b : Nat} {p : Ip} (h : IqAt W b p) (ho : p.ok) : row? W b 21 17 = some (addrC p.t6 p.to) :=
  obj_row (A := [.int .i64 p.tos, .int .i64 p.id, .int .i64 p.ttl, .int .i64 p.pro] ++ addrC p.f6 p.fr) (M := addrC p.t6 p.to) (C := [.bool p.al, .string (Str p.bd)]) (by simpa [IqAt, ipC] using h) (by simp [addrC_length, ho.1]) (by rw [addrC_length, ho.2])
theorem IqAt.free {W : World} {b : Nat} {p : Ip} (h : IqAt W b p) (ho : p.ok) : free? W b 0 40 = true := obj_free h (by simp [ipC_length ho])
theorem IqAt.frz {W : World} {b : Nat} {p : Ip} (h : IqAt W b p) (j : Nat) : W.frozen? ⟨b, j, none⟩ = false := ObjAt.free h j
theorem IqAt.made (w : World) (p : Ip) : IqAt (w.alloc (.cells (ipC p).toArray 26)) w.heap.size p := ObjAt.made w _ _
theorem IqAt.below {W W' : World} {b : Nat} {p : Ip} (h : IqAt W b p) (hb : Below W.heap.size W W') : IqAt W' b p := ObjAt.below h hb h.lt
/-- A packet boxed first of all. -/
def QB (w W : World) (p : Ip) : Prop := IqAt W w.heap.size p ∧ Below w.heap.size w W
theorem QB.made (w : World) (p : Ip) : QB w (w.alloc (.cells (ipC p).toArray 26)) p := ⟨IqAt.made w p, (Below.refl _ _).alloc (Nat.le_refl _) _⟩
theorem QB.keep {w W W' : World} {p : Ip} (h : QB w W p) (hb : Below W.heap.size W W') : QB w W' p := ⟨h.1.below hb, bstep h.2 hb⟩
theorem QB.drewN {w W : World} {p : Ip} (h : QB w W p) (n : Nat) : QB w (W.drewN n) p := h.keep (bdrewN (Below.refl _ _) n)
theorem QB.lt {w W : World} {p : Ip} (h : QB w W p) : w.heap.size < W.heap.size := h.1.lt

theorem bld_iq (p : Array (Nat × Value)) : Instr.build 26 p = aggBuild 26 p := rfl
theorem ld_iq (a : Addr) : loadVar 26 a = aggLd 26 a := rfl
theorem st_iq (a : Addr) (v : Value) : storeVar 26 a v = aggSt 26 a v := rfl
theorem ldr_iq (b o : Nat) (w : World) : (aggLd 26 ⟨b, o, none⟩).run Try.prog w = match row? w b o 40 with | some cs => .ok (.agg cs.toArray) w | none => aggLdSlow 26 b o w :=
  ld_run Try.underlying26 rfl (by kernel_rfl) b o w
theorem str_iq (b : Nat) (cs : Array Value) (w : World) : (aggSt 26 ⟨b, 0, none⟩ (.agg cs)).run Try.prog w = match free? w b 0 40 && fok cs 40 with | true => .ok () (aggW w b cs.toList) | false => aggStSlow 26 b 0 (.agg cs) w :=
  st_run (by kernel_rfl) b cs w
end Go.Proofs.Ytkmnnkklbgnfpaa
