/- A part of the proof. -/
import Derived.Test.YtlbdehegknehiaaGreatMg01
import Derived.Test.YtlbdehegknehiaaGreatMg02
import Derived.Test.YtlbdehegknehiaaGreatMg03
namespace Go.Proofs.YtlbdehegknehiaaGreat
open Go.RowKit
set_option linter.unusedVariables false
structure Ip where
  tos : Int
  id : Int
  ttl : Int
  pro : Int
  f6 : Bool
  fr : List UInt8
  t6 : Bool
  to : List UInt8
  al : Bool
  bd : List UInt8
def Ip.ok (p : Ip) : Prop := p.fr.length = 16 ∧ p.to.length = 16
def ipC (p : Ip) : List Value := [.int .i64 p.tos, .int .i64 p.id, .int .i64 p.ttl, .int .i64 p.pro] ++ (addrC p.f6 p.fr ++ (addrC p.t6 p.to ++ [.bool p.al, .string (Str p.bd)]))
theorem ipC_length {p : Ip} (h : p.ok) : (ipC p).length = 40 := by
  obtain ⟨h1, h2⟩ := h
  simp [ipC, addrC_length, h1, h2]
theorem ipC_one (p : Ip) : ∀ x ∈ ipC p, x.oneCell' = true := by
  intro x hx
  simp only [ipC, List.mem_append, List.mem_cons, List.not_mem_nil, or_false] at hx
  rcases hx with (rfl | rfl | rfl | rfl) | hx | hx | rfl | rfl
  · rfl
  · rfl
  · rfl
  · rfl
  · exact addrC_one _ _ x hx
  · exact addrC_one _ _ x hx
  all_goals rfl
theorem fok_ip {p : Ip} (h : p.ok) : fok (ipC p).toArray 40 = true := by
  have h1 : (ipC p).toArray.all (·.oneCell') = true := all_oneCell_toArray (ipC_one p)
  simp only [fok, h1, Bool.and_true]
  simp [ipC_length h]
def IpAt (W : World) (b : Nat) (p : Ip) : Prop := ObjAt W b (ipC p).toArray 78
theorem IpAt.n {W : World} {b : Nat} {p : Ip} (h : IpAt W b p) (j : Nat) (x : Value) (hx : [Value.int .i64 p.tos, .int .i64 p.id, .int .i64 p.ttl, .int .i64 p.pro][j]? = some x) : W.cell? ⟨b, j, none⟩ = some x := by
  have hj : j < 4 := (List.getElem?_eq_some_iff.1 hx).1
  rw [ObjAt.cell h, List.getElem?_toArray]
  unfold ipC
  rw [List.getElem?_append_left hj]
  exact hx
theorem IpAt.tos {W : World} {b : Nat} {p : Ip} (h : IpAt W b p) : W.cell? ⟨b, 0, none⟩ = some (.int .i64 p.tos) := h.n 0 _ rfl
theorem IpAt.id {W : World} {b : Nat} {p : Ip} (h : IpAt W b p) : W.cell? ⟨b, 1, none⟩ = some (.int .i64 p.id) := h.n 1 _ rfl
theorem IpAt.ttl {W : World} {b : Nat} {p : Ip} (h : IpAt W b p) : W.cell? ⟨b, 2, none⟩ = some (.int .i64 p.ttl) := h.n 2 _ rfl
theorem IpAt.pro {W : World} {b : Nat} {p : Ip} (h : IpAt W b p) : W.cell? ⟨b, 3, none⟩ = some (.int .i64 p.pro) := h.n 3 _ rfl
theorem IpAt.f6 {W : World} {b : Nat} {p : Ip} (h : IpAt W b p) : W.cell? ⟨b, 4, none⟩ = some (.bool p.f6) := by
  rw [ObjAt.cell h, List.getElem?_toArray]; rfl
theorem IpAt.t6 {W : World} {b : Nat} {p : Ip} (h : IpAt W b p) (ho : p.ok) : W.cell? ⟨b, 21, none⟩ = some (.bool p.t6) := by
  rw [ObjAt.cell h, List.getElem?_toArray]
  unfold ipC
  rw [List.getElem?_append_right (by simp), List.getElem?_append_right (by simp [addrC_length, ho.1])]
  simp [ho.1, addrC, B8_length]
theorem IpAt.e {W : World} {b : Nat} {p : Ip} (h : IpAt W b p) (ho : p.ok) (j : Nat) (x : Value) (hx : [Value.bool p.al, .string (Str p.bd)][j]? = some x) : W.cell? ⟨b, 38 + j, none⟩ = some x := by
  rw [ObjAt.cell h, List.getElem?_toArray]
  unfold ipC
  rw [List.getElem?_append_right (by simp; omega), List.getElem?_append_right (by simp [addrC_length, ho.1]; omega), List.getElem?_append_right (by simp [addrC_length, ho.1, ho.2]; omega)]
  simp only [List.length_cons, List.length_nil, addrC_length, ho.1, ho.2]
  rw [show 38 + j - (0 + 1 + 1 + 1 + 1) - (16 + 1) - (16 + 1) = j by omega]
  exact hx
theorem IpAt.al {W : World} {b : Nat} {p : Ip} (h : IpAt W b p) (ho : p.ok) : W.cell? ⟨b, 38, none⟩ = some (.bool p.al) := h.e ho 0 _ rfl
theorem IpAt.bd {W : World} {b : Nat} {p : Ip} (h : IpAt W b p) (ho : p.ok) : W.cell? ⟨b, 39, none⟩ = some (.string (Str p.bd)) := h.e ho 1 _ rfl
theorem IpAt.row {W : World} {b : Nat} {p : Ip} (h : IpAt W b p) (ho : p.ok) : row? W b 0 40 = some (ipC p) :=
  obj_row (A := []) (M := ipC p) (C := []) (by simpa [IpAt] using h) rfl (ipC_length ho)
theorem IpAt.rfr {W : World} {b : Nat} {p : Ip} (h : IpAt W b p) (ho : p.ok) : row? W b 4 17 = some (addrC p.f6 p.fr) :=
  obj_row (A := [.int .i64 p.tos, .int .i64 p.id, .int .i64 p.ttl, .int .i64 p.pro]) (M := addrC p.f6 p.fr) (C := addrC p.t6 p.to ++ [.bool p.al, .string (Str p.bd)]) (by simpa [IpAt, ipC] using h) rfl (by rw [addrC_length, ho.1])
theorem IpAt.rto {W : World} {b : Nat} {p : Ip} (h : IpAt W b p) (ho : p.ok) : row? W b 21 17 = some (addrC p.t6 p.to) :=
  obj_row (A := [.int .i64 p.tos, .int .i64 p.id, .int .i64 p.ttl, .int .i64 p.pro] ++ addrC p.f6 p.fr) (M := addrC p.t6 p.to) (C := [.bool p.al, .string (Str p.bd)]) (by simpa [IpAt, ipC] using h) (by simp [addrC_length, ho.1]) (by rw [addrC_length, ho.2])
theorem IpAt.free {W : World} {b : Nat} {p : Ip} (h : IpAt W b p) (ho : p.ok) : free? W b 0 40 = true := obj_free h (by simp [ipC_length ho])
theorem IpAt.frz {W : World} {b : Nat} {p : Ip} (h : IpAt W b p) (j : Nat) : W.frozen? ⟨b, j, none⟩ = false := ObjAt.free h j
theorem IpAt.made (w : World) (p : Ip) : IpAt (w.alloc (.cells (ipC p).toArray 78)) w.heap.size p := ObjAt.made w _ _
theorem IpAt.below {W W' : World} {b : Nat} {p : Ip} (h : IpAt W b p) (hb : Below W.heap.size W W') : IpAt W' b p := ObjAt.below h hb h.lt
def IB (w W : World) (p : Ip) : Prop := IpAt W w.heap.size p ∧ Below w.heap.size w W
theorem IB.made (w : World) (p : Ip) : IB w (w.alloc (.cells (ipC p).toArray 78)) p := ⟨IpAt.made w p, (Below.refl _ _).alloc (Nat.le_refl _) _⟩
theorem IB.keep {w W W' : World} {p : Ip} (h : IB w W p) (hb : Below W.heap.size W W') : IB w W' p := ⟨h.1.below hb, bstep h.2 hb⟩
theorem IB.drewN {w W : World} {p : Ip} (h : IB w W p) (n : Nat) : IB w (W.drewN n) p := h.keep (bdrewN (Below.refl _ _) n)
theorem IB.lt {w W : World} {p : Ip} (h : IB w W p) : w.heap.size < W.heap.size := h.1.lt
theorem bld_ip (p : Array (Nat × Value)) : Instr.build 78 p = aggBuild 78 p := rfl
theorem ld_ip (a : Addr) : loadVar 78 a = aggLd 78 a := rfl
theorem st_ip (a : Addr) (v : Value) : storeVar 78 a v = aggSt 78 a v := rfl
theorem ldr_ip (b o : Nat) (w : World) : (aggLd 78 ⟨b, o, none⟩).run Tryz.prog w = match row? w b o 40 with | some cs => .ok (.agg cs.toArray) w | none => aggLdSlow 78 b o w :=
  ld_run Tryz.underlying78 rfl (by kernel_rfl) b o w
theorem str_ip (b : Nat) (cs : Array Value) (w : World) : (aggSt 78 ⟨b, 0, none⟩ (.agg cs)).run Tryz.prog w = match free? w b 0 40 && fok cs 40 with | true => .ok () (aggW w b cs.toList) | false => aggStSlow 78 b 0 (.agg cs) w :=
  st_run (by kernel_rfl) b cs w
noncomputable def aggStSlowO (T : TypeId) (b o : Nat) (v : Value) (w : World) : Result Unit := (aggSt T ⟨b, o, none⟩ v).run Tryz.prog w
theorem st_run_at {T : TypeId} {n : Nat} (hi : (Tryz.prog.info? T).map (·.size) = some n) (b o : Nat) (cs : Array Value) (w : World) :
    (aggSt T ⟨b, o, none⟩ (.agg cs)).run Tryz.prog w = match free? w b o n && fok cs n with | true => .ok () (aggO w b o cs.toList) | false => aggStSlowO T b o (.agg cs) w := by
  split
  · rename_i h
    simp only [Bool.and_eq_true, fok, beq_iff_eq] at h
    obtain ⟨h1, h2, h3⟩ := h
    rw [aggO_eq]
    exact run_storeVar_mid w b o T cs (by rw [h2]; exact of_free h1) (by rw [h2]; exact hi) h3
  · rfl
theorem str_addr_at (b o : Nat) (cs : Array Value) (w : World) : (aggSt 24 ⟨b, o, none⟩ (.agg cs)).run Tryz.prog w = match free? w b o 17 && fok cs 17 with | true => .ok () (aggO w b o cs.toList) | false => aggStSlowO 24 b o (.agg cs) w :=
  st_run_at (by kernel_rfl) b o cs w
end Go.Proofs.YtlbdehegknehiaaGreat
