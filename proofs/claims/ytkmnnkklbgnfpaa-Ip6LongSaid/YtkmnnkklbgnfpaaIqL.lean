/-
  The small living call of the laws on packets of IPv6; the shape of a packet that came in; packets made later.
-/
import Derived.Test.YtkmnnkklbgnfpaaIqK
import Derived.Test.YtkmnnkklbgnfpaaIqF
import Derived.Test.YtkmnnkklbgnfpaaIqW
import Derived.Test.YtkmnnkklbgnfpaaIqV
import Derived.Test.YtkmnnkklbgnfpaaEqQ
import Derived.Test.YtkmnnkklbgnfpaaShAddr
namespace Go.Proofs.Ytkmnnkklbgnfpaa
open Go.RowKit
set_option linter.unusedVariables false
attribute [local go_sem ↓] bld_iq ld_iq st_iq ld_addr st_addr
attribute [local go_sem] ldr_iq str_iq ldr_addr str_addr

def liveQ : Ip := ⟨0, 0, 0, 0, false, [0, 0, 0, 0, 0, 0, 0, 0, 0, 0, 0, 0, 0, 0, 0, 0], false, [0, 0, 0, 0, 0, 0, 0, 0, 0, 0, 0, 0, 0, 0, 0, 0], true, [120]⟩
theorem liveQ_ok : liveQ.ok := ⟨rfl, rfl⟩
theorem bld_liveQ (w0 : World) : (aggBuild 26 #[(6, .bool true), (7, .string ⟨#[120]⟩)]).run Try.prog w0 = .ok (.agg (ipC liveQ).toArray) w0 := bld_run _ _ _ (by kernel_rfl) _
theorem live_o1 (w : World) : Calls Try.prog 16 #[.string ⟨#[5, 2, 0, 0, 1, 0]⟩] w fun x w' => x = .returned (.tuple #[.bool true, .int .i64 0]) ∧ Below w.heap.size w w' := opt6_any [5, 2, 0, 0, 1, 0] (by decide) w
theorem live_o2 (w : World) : Calls Try.prog 16 #[.string ⟨#[194]⟩] w fun x w' => x = .returned (.tuple #[.bool false, .int .i64 2]) ∧ Below w.heap.size w w' := opt6_any [194] (by decide) w
theorem live_size (w : World) : Calls Try.prog 14 #[.agg (ipC liveQ).toArray] w fun x w' => x = .returned (.int .i64 49) ∧ Below w.heap.size w w' := size6_any liveQ liveQ_ok 0 rfl (by omega) (by decide) w
set_option maxRecDepth 100000 in
set_option maxHeartbeats 1000000 in
theorem lives6_any (w : World) : Calls Try.prog 11 #[] w fun x w' => x = .returned (.bool true) ∧ Below w.heap.size w w' := by
  have hbl := bld_liveQ
  go_enter Try.func11, Try.ntmps11
  go_wp2_with (first
    | (go_at_call 16; (with_reducible refine (live_o1 _).mono ?_); rintro x w1 ⟨rfl, hb1⟩; have H1 := Lib.hid hb1; clear hb1)
    | (go_at_call 16; (with_reducible refine (live_o2 _).mono ?_); rintro x w2 ⟨rfl, hb2⟩; have H2 := Lib.hid (bstep H1.out hb2); clear hb2)
    | (go_at_call 14; (with_reducible refine (live_size _).mono ?_); rintro x w3 ⟨rfl, hb3⟩; have H3 := Lib.hid (bstep H2.out hb3); clear hb3))
  go_ret
  exact ⟨rfl, H3.out⟩
/-- A packet made later. -/
def K1 (w W : World) (m : Nat) (p : Ip) : Prop := IqAt W m p ∧ Below w.heap.size w W ∧ w.heap.size ≤ m ∧ p.ok
theorem K1.below {w W W' : World} {m : Nat} {p : Ip} (h : K1 w W m p) (hb : Below W.heap.size W W') : K1 w W' m p := ⟨h.1.below hb, bstep h.2.1 hb, h.2.2.1, h.2.2.2⟩
theorem K1.drewN {w W : World} {m : Nat} {p : Ip} (h : K1 w W m p) (d : Nat) : K1 w (W.drewN d) m p := h.below (bdrewN (Below.refl _ _) d)
theorem K1.made {w W : World} (h : Below w.heap.size w W) (p : Ip) (ho : p.ok) : K1 w (aggW (W.alloc (.cells (ipC zeroI).toArray 26)) W.heap.size (ipC p)) W.heap.size p :=
  ⟨aggW_obj (ObjAt.made W (ipC zeroI).toArray 26) (by rw [ipC_length ho, ipC_length zeroI_ok]) (ipC_one p), aggW_below (h.alloc h.size _) h.size _, h.size, ho⟩
/-- The shape of a packet that came in. -/
def iqS : Shape (Int × (Int × (Int × (Int × ((Bool × (List UInt8 × Unit)) × ((Bool × (List UInt8 × Unit)) × (Bool × (List UInt8 × Unit)))))))) := pairS 1 (intS .i64) (pairS 1 (intS .i64) (pairS 1 (intS .i64) (pairS 1 (intS .i64) (pairS 17 addrS (pairS 17 addrS (pairS 1 boolS (pairS 1 strS unitS)))))))
theorem opens_iqS : Opens Try.prog 26 iqS :=
  opens_struct Try.underlying26 (opens_cons rfl (by kernel_rfl) (of_decide_eq_true (by kernel_rfl)) (opens_int Try.underlying3) (opens_cons rfl (by kernel_rfl) (of_decide_eq_true (by kernel_rfl)) (opens_int Try.underlying3)
    (opens_cons rfl (by kernel_rfl) (of_decide_eq_true (by kernel_rfl)) (opens_int Try.underlying3) (opens_cons rfl (by kernel_rfl) (of_decide_eq_true (by kernel_rfl)) (opens_int Try.underlying3)
    (opens_cons rfl (by kernel_rfl) (of_decide_eq_true (by kernel_rfl)) opens_addrS (opens_cons rfl (by kernel_rfl) (of_decide_eq_true (by kernel_rfl)) opens_addrS
    (opens_cons rfl (by kernel_rfl) (of_decide_eq_true (by kernel_rfl)) (opens_bool Try.underlying4) (opens_cons rfl (by kernel_rfl) (of_decide_eq_true (by kernel_rfl)) (opens_str Try.underlying9) (opens_nil (by kernel_rfl))))))))))
theorem iqS_cells {w : World} {cs : List Value} {x : _} (h : iqS w cs x) : ∃ p : Ip, cs = ipC p ∧ p.ok ∧ p.bd.length ≤ maxLen := by
  obtain ⟨c0, d0, rfl, _, h0, c1, d1, rfl, _, h1, c2, d2, rfl, _, h2, c3, d3, rfl, _, h3, c4, d4, rfl, _, h4, c5, d5, rfl, _, h5, c6, d6, rfl, _, h6, c7, d7, rfl, _, h7, h8⟩ := h
  obtain ⟨e0, _⟩ := h0
  obtain ⟨e1, _⟩ := h1
  obtain ⟨e2, _⟩ := h2
  obtain ⟨e3, _⟩ := h3
  obtain ⟨e4, l4⟩ := addrS_cells h4
  obtain ⟨e5, l5⟩ := addrS_cells h5
  have e6 : c6 = [.bool _] := h6
  obtain ⟨e7, l7⟩ := h7
  have e8 : d7 = [] := h8
  subst e0 e1 e2 e3 e4 e5 e6 e7 e8
  exact ⟨⟨_, _, _, _, _, _, _, _, _, _⟩, rfl, ⟨l4, l5⟩, l7⟩

/-- Two packets made later. -/
def K2 (w W : World) (m n : Nat) (f g : Ip) : Prop := K1 w W m f ∧ IqAt W n g ∧ m < n ∧ g.ok
theorem K2.below {w W W' : World} {m n : Nat} {f g : Ip} (h : K2 w W m n f g) (hb : Below W.heap.size W W') : K2 w W' m n f g := ⟨h.1.below hb, h.2.1.below hb, h.2.2⟩
theorem K2.made {w W : World} {m : Nat} {f : Ip} (h : K1 w W m f) (g : Ip) (hg : g.ok) : K2 w (aggW (W.alloc (.cells (ipC zeroI).toArray 26)) W.heap.size (ipC g)) m W.heap.size f g := by
  have hl := h.1.lt
  exact ⟨⟨aggW_other (ObjAt.alloc h.1 _) _ (by omega), aggW_below (h.2.1.alloc h.2.1.size _) h.2.1.size _, h.2.2.1, h.2.2.2⟩, aggW_obj (ObjAt.made W (ipC zeroI).toArray 26) (by rw [ipC_length hg, ipC_length zeroI_ok]) (ipC_one g), hl, hg⟩
end Go.Proofs.Ytkmnnkklbgnfpaa
