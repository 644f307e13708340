/-
  SumPseudo: for every input the law returns true and leaves its arguments as they were. It is proved for all arguments, without a condition.
-/
import Derived.Test.YtogdbpickcnjaaaRefPseudo
import Derived.Test.YtogdbpickcnjaaaOpen
import Derived.Test.YtogdbpickcnjaaaShAddr
import Derived.WalkKit
import Derived.ProofKit
import Derived.OpenShut
import Derived.ShutString
import Derived.ChangeOld
import Derived.Below
import Derived.Lib.SmallJoins
import Derived.Deep.RegionHeld3
import Derived.Test.YtogdbpickcnjaaaRows
namespace Go.Proofs.Ytogdbpickcnjaaa.sumPseudo
open Go.ChangeShapes Go.WideShapes Go.ChangeAt Go.RowKit Go.Joins
open Go.ChangeMaps (open_string shut_string)
set_option linter.unusedVariables false

theorem own : ownKnob Try.prog.godebug = none := by kernel_rfl
theorem laidOut : laidOutB Try.prog = true := by kernel_rfl

def askS : Shape ((Bool × (List UInt8 × Unit)) × ((Bool × (List UInt8 × Unit)) × (Int × (Int × Unit)))) := pairS 17 addrS (pairS 17 addrS (pairS 1 (intS .i64) (pairS 1 (intS .i64) unitS)))
theorem opens_askS : Opens Try.prog 45 askS :=
  opens_struct Try.underlying45 (opens_cons rfl (by kernel_rfl) (of_decide_eq_true (by kernel_rfl)) opens_addrS (opens_cons rfl (by kernel_rfl) (of_decide_eq_true (by kernel_rfl)) opens_addrS
    (opens_cons rfl (by kernel_rfl) (of_decide_eq_true (by kernel_rfl)) (opens_int Try.underlying3) (opens_cons rfl (by kernel_rfl) (of_decide_eq_true (by kernel_rfl)) (opens_int Try.underlying3) (opens_nil (by kernel_rfl))))))
theorem askS_cells {w : World} {cs : List Value} {x : _} (h : askS w cs x) : ∃ (va vb : Bool) (la lb : List UInt8) (p s : Int), cs = addrC va la ++ (addrC vb lb ++ [.int .i64 p, .int .i64 s]) ∧ la.length = 16 ∧ lb.length = 16 := by
  obtain ⟨c0, d0, rfl, _, h0, c1, d1, rfl, _, h1, c2, d2, rfl, _, h2, c3, d3, rfl, _, h3, h4⟩ := h
  obtain ⟨e0, l0⟩ := addrS_cells h0
  obtain ⟨e1, l1⟩ := addrS_cells h1
  obtain ⟨e2, _⟩ := h2
  obtain ⟨e3, _⟩ := h3
  have h4' : d3 = [] := h4
  subst e0 e1 e2 e3 h4'
  exact ⟨_, _, _, _, _, _, rfl, l0, l1⟩

--WALK
def askC (va vb : Bool) (la lb : List UInt8) (p s : Int) : List Value := addrC va la ++ (addrC vb lb ++ [Value.int .i64 p, Value.int .i64 s])
theorem box_range (w : World) (pre cs post : List Value) (t : TypeId) (o : Nat) (ho : o = pre.length) : (w.alloc (.cells (pre ++ (cs ++ post)).toArray t)).rangeAt w.heap.size o cs := fun j v hv => by
  subst ho
  rw [World.cell?_alloc_mark]
  have hlt : j < cs.length := (List.getElem?_eq_some_iff.1 hv).1
  rw [List.getElem?_toArray, List.getElem?_append_right (by omega), Nat.add_sub_cancel_left, List.getElem?_append_left hlt, hv]
theorem box_ask (va vb : Bool) (la lb : List UInt8) (p s : Int) (ha : la.length = 16) (hb : lb.length = 16) (w : World) (t : TypeId) :
    row? (w.alloc (.cells (askC va vb la lb p s).toArray t)) w.heap.size 0 17 = some (addrC va la) ∧ row? (w.alloc (.cells (askC va vb la lb p s).toArray t)) w.heap.size 17 17 = some (addrC vb lb) ∧
    (w.alloc (.cells (askC va vb la lb p s).toArray t)).cell? ⟨w.heap.size, 34, none⟩ = some (.int .i64 p) ∧ (w.alloc (.cells (askC va vb la lb p s).toArray t)).cell? ⟨w.heap.size, 35, none⟩ = some (.int .i64 s) ∧
    w.heap.size < (w.alloc (.cells (askC va vb la lb p s).toArray t)).heap.size ∧ Below w.heap.size w (w.alloc (.cells (askC va vb la lb p s).toArray t)) := by
  refine ⟨by have := row?_of (box_range w [] (addrC va la) (addrC vb lb ++ [Value.int .i64 p, Value.int .i64 s]) t 0 rfl); rwa [addrC_length, ha] at this, by have := row?_of (box_range w (addrC va la) (addrC vb lb) [Value.int .i64 p, Value.int .i64 s] t 17 (by rw [addrC_length, ha])); rwa [addrC_length, hb] at this, ?_, ?_, by simp, (Below.refl _ _).alloc (Nat.le_refl _) _⟩
  · rw [World.cell?_alloc_mark]; simp [askC, addrC_length, ha, hb]
  · rw [World.cell?_alloc_mark]; simp [askC, addrC_length, ha, hb]
theorem keep_below {w W W' : World} {va vb : Bool} {la lb : List UInt8} {p s : Int} (h : row? W w.heap.size 0 17 = some (addrC va la) ∧ row? W w.heap.size 17 17 = some (addrC vb lb) ∧ W.cell? ⟨w.heap.size, 34, none⟩ = some (.int .i64 p) ∧ W.cell? ⟨w.heap.size, 35, none⟩ = some (.int .i64 s) ∧ w.heap.size < W.heap.size ∧ Below w.heap.size w W)
    (hb : Below W.heap.size W W') : row? W' w.heap.size 0 17 = some (addrC va la) ∧ row? W' w.heap.size 17 17 = some (addrC vb lb) ∧ W'.cell? ⟨w.heap.size, 34, none⟩ = some (.int .i64 p) ∧ W'.cell? ⟨w.heap.size, 35, none⟩ = some (.int .i64 s) ∧ w.heap.size < W'.heap.size ∧ Below w.heap.size w W' := by
  obtain ⟨h0, h1, h2, h3, h4, h5⟩ := h
  have e : ∀ o, W'.cell? ⟨w.heap.size, o, none⟩ = W.cell? ⟨w.heap.size, o, none⟩ := fun o => hb.cell (p := ⟨w.heap.size, o, none⟩) h4
  exact ⟨row?_below h0 h4 hb, row?_below h1 h4 hb, by rw [e]; exact h2, by rw [e]; exact h3, Nat.lt_of_lt_of_le h4 hb.size, bstep h5 hb⟩

attribute [local go_sem ↓] addrLoad_eq
attribute [local go_sem] addrLoad_run
set_option maxHeartbeats 1000000 in
theorem walk (w : World) (c0 : List Value) {x0 : _} (w0 : askS w c0 x0) :
    Calls Try.prog 7 #[.agg c0.toArray] w fun e w' => e = .returned (.bool true) ∧ Below w.heap.size w w' := by
  obtain ⟨va, vb, la, lb, p, s, hc, ha, hb⟩ := askS_cells w0
  obtain rfl : c0 = askC va vb la lb p s := hc
  clear w0
  have hk0 := box_ask va vb la lb p s ha hb w 45
  have Hk0 := Lib.hid hk0; clear hk0
  have Ha := Lib.hid ha; have Hb := Lib.hid hb; clear ha hb
  go_enter Try.func7, Try.ntmps7
  go_wp2_with fail
  have hk0 := Hk0.out
  clear Hk0
  generalize w.alloc (.cells (askC va vb la lb p s).toArray 45) = W at hk0 ⊢
  have hst : ∀ t : List UInt8, (t == t) = true := fun t => by simp
  go_region_held3 (fun w' => row? w' w.heap.size 0 17 = some (addrC va la) ∧ row? w' w.heap.size 17 17 = some (addrC vb lb) ∧ w'.cell? ⟨w.heap.size, 34, none⟩ = some (.int .i64 p) ∧ w'.cell? ⟨w.heap.size, 35, none⟩ = some (.int .i64 s) ∧ w.heap.size < w'.heap.size ∧ Below w.heap.size w w') (first | assumption | exact keep_below hk0 (bdrewN (Below.refl _ _) 1)) (first
    | (go_at_call 22; refine (pseudo_any va vb la lb Ha.out Hb.out p s _).mono ?_; rintro e w3 ⟨rfl, hb3⟩; have hk3 := keep_below (w := w) (va := va) (vb := vb) (la := la) (lb := lb) (p := p) (s := s) (by assumption) hb3; clear hb3)
    | (go_at_call 23; refine (rpseudo_any va vb la lb Ha.out Hb.out p s _).mono ?_; rintro e w4 ⟨rfl, hb3⟩; have hk4 := keep_below (w := w) (va := va) (vb := vb) (la := la) (lb := lb) (p := p) (s := s) (by assumption) hb3; clear hb3)
    | (go_at_call 16; refine (lives2_any _).mono ?_; rintro e w5 ⟨rfl, hb3⟩; have hk5 := keep_below (w := w) (va := va) (vb := vb) (la := la) (lb := lb) (p := p) (s := s) (by assumption) hb3; clear hb3))
  go_wp2_with fail
  go_ret
  exact ⟨rfl, hk5.2.2.2.2.2⟩
--ENDWALK

set_option maxRecDepth 100000 in
theorem lifted (os : Os) (started : os.Started) (H : Type) (enc : TypeId × Value → H) :
    ReturnsInHanded {} Try.checked os 7 .any (Rows.sumPseudoSpec.pre6 enc Try.prog Try.f7 Rows.sumPseudoRow.domain false) (Rows.sumPseudoSpec.post enc Try.prog Try.f7 false true false false) := by
  refine returnsInHanded_of_change (C := Try.checked) own started (by kernel_rfl) Try.func7
    (ChangeSpec.witness6 (enc := enc) (C := Try.checked) false ⟨#[], #[.agg #[.bool false, .int .u8 0, .int .u8 0, .int .u8 0, .int .u8 0, .int .u8 0, .int .u8 0, .int .u8 0, .int .u8 0, .int .u8 0, .int .u8 0, .int .u8 0, .int .u8 0, .int .u8 0, .int .u8 0, .int .u8 0, .int .u8 0, .bool false, .int .u8 0, .int .u8 0, .int .u8 0, .int .u8 0, .int .u8 0, .int .u8 0, .int .u8 0, .int .u8 0, .int .u8 0, .int .u8 0, .int .u8 0, .int .u8 0, .int .u8 0, .int .u8 0, .int .u8 0, .int .u8 0, .int .i64 0, .int .i64 0]], []⟩ 8 (by kernel_rfl) (by kernel_rfl) (by kernel_rfl) (by kernel_rfl)) ?_
  intro W base args ds gs before hval0 hW hcnd _
  have hval : ∀ (j : Nat) t v, Try.f7.params[j]? = some t → args[j]? = some v → Value.okWide Try.prog W .any base t v := hval0
  have hW' := hW
  obtain ⟨p, q, hA0, hV, rfl, hfz, hnd⟩ := hW
  have hA : DataW.TrodAll enc Try.prog W 0 (fun _ => true) true Try.f7.params.toList args.toList ds p := hA0
  rw [Try.params7] at hA hval
  obtain ⟨v0, vs0, d0, ds0, p0, q0, hargs, rfl, rfl, h0, r0⟩ := trodAll_cons hA
  obtain ⟨rfl, rfl, rfl⟩ := trodAll_nil r0
  obtain rfl : args = #[v0] := by cases args; simp_all
  obtain ⟨rfl, rfl⟩ := trodVars_none hV
  have k0 := h0
  have lt0 : ∀ x ∈ p0, x.block < W.heap.size := by obtain ⟨m, hm⟩ := k0; exact DataW.trod_lt m _ _ _ hm
  obtain ⟨fuel0, hf0⟩ := h0
  obtain ⟨⟨c0⟩, rfl, _⟩ := okWide_struct Try.underlying45 (hval 0 45 v0 rfl rfl)
  obtain ⟨x0, w0⟩ := opens_askS (cs := c0) hf0
  clear hA0 hval0
  refine (walk W _ w0).mono fun e W' ⟨he, bel⟩ => ?_
  subst he
  exact ⟨_, rfl, _, _, _, [], _, [], hW', trodAll_mk1 (shut_bool Try.underlying4 _), (trodAll_cons_mk (Below.trod laidOut (by kernel_rfl) (of_decide_eq_true (by kernel_rfl)) k0 bel lt0) trodAll_mk0), rfl, bel.frame _, fun h => by cases h⟩

theorem over : Rows.sumPseudoRow.holds Try.pinned (OpenSpec.ofChange Rows.sumPseudoSpec) :=
  OpenClaim.holds_of_wide 7 Try.f7 rfl rfl rfl rfl rfl rfl rfl ⟨rfl, rfl, rfl, rfl, rfl⟩ rfl rfl rfl rfl rfl (by kernel_rfl) Try.func7 (by kernel_rfl)
    (of_decide_eq_true (by kernel_rfl)) (by unfold Func.isWrapper; first | (rw [if_pos (by decide +kernel)]; kernel_rfl) | (rw [if_neg (by decide +kernel)]; exact ⟨rfl, rfl⟩))
    (fun os started H enc _ => lifted os started H enc)

theorem proved : Rows.SumPseudoSaid := over
#print axioms proved
end Go.Proofs.Ytogdbpickcnjaaa.sumPseudo
