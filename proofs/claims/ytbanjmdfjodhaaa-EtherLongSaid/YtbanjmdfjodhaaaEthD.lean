/-
  The contract of ether.takeMac: an address of Ethernet that a reader passes.
-/
import Derived.Test.YtbanjmdfjodhaaaEthC
import Derived.Test.YtbanjmdfjodhaaaOctRd
import Derived.Lib.LazyBuf
import Derived.Deep.RegionLaw
import Derived.Laws.CopyOwn
namespace Go.Proofs.Ytbanjmdfjodhaaa
open Go.RowKit
set_option linter.unusedVariables false
attribute [local go_sem ↓] bld_eth ld_eth st_eth ld_mac st_mac
attribute [local go_sem] ldr_eth str_eth ldr_mac str_mac

theorem gbelow {w a c : World} {row : Option Nat} (h : w.grownBy a row) (k : Below w.heap.size a c) : w.grownBy c row :=
  ⟨k.os.trans h.os, k.tape.trans h.tape, k.output.trans h.output, Nat.le_trans h.size k.size, fun i hi hne => (k.block i hi).trans (h.block i hi hne)⟩
theorem gof {w c : World} {row : Option Nat} (k : Below w.heap.size w c) : w.grownBy c row := ⟨k.os, k.tape, k.output, k.size, fun i hi _ => k.block i hi⟩
theorem gtr {w a c : World} {row : Option Nat} (h : w.grownBy a row) (k : a.grownBy c row) : w.grownBy c row := gtrans h k
/-- A copy of a string as one step of a region that draws. -/
theorem step_copy_str {ops : Array Oper} {o : Oper} {a : Act} {w : World} {K : Act → World → Prop} {Q : Exit → Act → World → Prop} {E : Prop}
    (hg : o.guard = none) (d x : Operand) (dT sT : TypeId) (hop : o.op = Op.call { callee := Callee.builtin Builtin.copy, args := #[d, x], argTypes := #[dT, sT] })
    (hu : Try.prog.underlying dT = some (.slice 5))
    (b off dLen dCap : Nat) (hd : a.eval d = .slice (some ⟨b, off, none⟩) dLen dCap) (l : List UInt8) (hx : a.eval x = .string (Str l)) (hle : l.length ≤ dLen)
    (L : List Value) (t : TypeId) (hG : ObjAt w b L.toArray t) (hfit : off + l.length ≤ L.length)
    (hK : K (a.put o.dst (goInt l.length)) (aggO w b off (B8 l))) :
    if Region.wanted o (yielded ops a.tmps) = true then Oper.wp Try.prog o a w K Q else E := by
  have hz : ∀ w, (Go.sizeOf 5).run Try.prog w = .ok 1 w := fun w => by
    obtain ⟨i, hi⟩ := info_of_underlying Try.underlying5
    have hs : (Try.prog.info? 5).map (·.size) = some 1 := by kernel_rfl
    rw [hi] at hs
    simp at hs
    simp [sizeOf, typeInfo, hi, hs]
  refine step_copy_string hg d x dT sT hop 5 hu hz b off dLen dCap hd (Str l) hx (by rw [Str_size]; exact hle) (fun j hj => by rw [hG.cell]; rw [Str_size] at hj; simp; omega) (fun j hj => hG.free _) ?_
  rw [Str_size]
  have e : w.setCells b off ((Str l).data.toList.map fun x => Value.int .u8 (x.toNat : Int)) = aggO w b off (B8 l) := (aggO_eq _ _ _ _).symm
  rw [e]
  exact hK

/-- What takeMac makes of what it took. -/
def macOf (t : List UInt8) : List UInt8 := t ++ List.replicate (6 - t.length) 0
theorem macOf_length {t : List UInt8} (h : t.length ≤ 6) : (macOf t).length = 6 := by unfold macOf; simp; omega
theorem over_mac (t : List UInt8) (h : t.length ≤ 6) : over (B8 (List.replicate 6 0)) 0 (B8 t) = B8 (macOf t) := by
  unfold over macOf
  rw [B8_append, B8_length, B8_replicate, B8_replicate, Nat.zero_add, List.drop_replicate]
  rfl
theorem takeV6 (l : List UInt8) (bad : Bool) : (takeV l bad 6).length ≤ 6 := by
  unfold takeV; repeat' split
  all_goals simp
  omega

/-- The reader and the two cells that takeMac made. -/
def TM (w W : World) (b : Nat) (l : List UInt8) (k : Nat) (bad : Bool) : Prop :=
  RdAt W b l k bad ∧ ObjAt W w.heap.size (B8 (List.replicate 6 0)).toArray 23 ∧ ObjAt W (w.heap.size + 1) (B8 (List.replicate 6 0)).toArray 23 ∧ b < w.heap.size ∧ w.grownBy W (some b)
theorem TM.start (w : World) (b : Nat) (l : List UInt8) (k : Nat) (bad : Bool) (h : RdAt w b l k bad) :
    TM w ((w.alloc (.cells #[.int .u8 0, .int .u8 0, .int .u8 0, .int .u8 0, .int .u8 0, .int .u8 0] 23)).alloc (.cells #[.int .u8 0, .int .u8 0, .int .u8 0, .int .u8 0, .int .u8 0, .int .u8 0] 23)) b l k bad := by
  have hb : b < w.heap.size := ObjAt.lt h
  refine ⟨ObjAt.alloc (ObjAt.alloc h _) _, (ObjAt.made w _ _).alloc _, ?_, hb, gof (((Below.refl _ _).alloc (Nat.le_refl _) _).alloc (by simp) _)⟩
  have := ObjAt.made (w.alloc (.cells #[.int .u8 0, .int .u8 0, .int .u8 0, .int .u8 0, .int .u8 0, .int .u8 0] 23)) #[.int .u8 0, .int .u8 0, .int .u8 0, .int .u8 0, .int .u8 0, .int .u8 0] 23
  rw [show (B8 (List.replicate 6 0)).toArray = #[.int .u8 0, .int .u8 0, .int .u8 0, .int .u8 0, .int .u8 0, .int .u8 0] from rfl]
  rw [show (w.alloc (.cells #[.int .u8 0, .int .u8 0, .int .u8 0, .int .u8 0, .int .u8 0, .int .u8 0] 23)).heap.size = w.heap.size + 1 by simp] at this
  exact this
theorem TM.grown {w W W' : World} {b : Nat} {l : List UInt8} {k : Nat} {bad : Bool} (h : TM w W b l k bad) {l' : List UInt8} {k' : Nat} {bad' : Bool} (hr : RdAt W' b l' k' bad') (hg : W.grownBy W' (some b)) : TM w W' b l' k' bad' :=
  ⟨hr, ObjAt.grown h.2.1 hg (by have := h.2.2.2.1; simp; omega), ObjAt.grown h.2.2.1 hg (by have := h.2.2.2.1; simp; omega), h.2.2.2.1, gtrans h.2.2.2.2 hg⟩
theorem TM.drewN {w W : World} {b : Nat} {l : List UInt8} {k : Nat} {bad : Bool} (h : TM w W b l k bad) (n : Nat) : TM w (W.drewN n) b l k bad := ⟨h.1, h.2.1, h.2.2.1, h.2.2.2.1, gdrewN h.2.2.2.2 n⟩
theorem TM.copied {w W : World} {b : Nat} {l : List UInt8} {k : Nat} {bad : Bool} (h : TM w W b l k bad) {t : List UInt8} (ht : t.length ≤ 6) :
    row? (aggO W (w.heap.size + 1) 0 (B8 t)) (w.heap.size + 1) 0 6 = some (B8 (macOf t)) ∧ free? (aggO W (w.heap.size + 1) 0 (B8 t)) w.heap.size 0 6 = true ∧
    RdAt (aggW (aggO W (w.heap.size + 1) 0 (B8 t)) w.heap.size (B8 (macOf t))) b l k bad ∧ w.grownBy (aggW (aggO W (w.heap.size + 1) 0 (B8 t)) w.heap.size (B8 (macOf t))) (some b) ∧
    row? (aggW (aggO W (w.heap.size + 1) 0 (B8 t)) w.heap.size (B8 (macOf t))) w.heap.size 0 6 = some (B8 (macOf t)) := by
  obtain ⟨h1, h2, h3, h4, h5⟩ := h
  have o1 := aggO_obj (o := 0) (cs := B8 t) h3 (by simp [B8_length]; omega) (B8_one t)
  rw [over_mac t ht] at o1
  have o2 := aggO_other (o := 0) h2 (B8 t) (show w.heap.size ≠ w.heap.size + 1 by omega)
  have o3 := aggO_other (o := 0) h1 (B8 t) (show b ≠ w.heap.size + 1 by omega)
  have f1 : free? (aggO W (w.heap.size + 1) 0 (B8 t)) w.heap.size 0 6 = true := obj_free o2 (by simp [B8_length])
  have hl : (B8 (macOf t)).length = 6 := by rw [B8_length, macOf_length ht]
  exact ⟨obj_row (A := []) (M := B8 (macOf t)) (C := []) (by simpa using o1) rfl hl, f1, aggW_other o3 _ (by omega),
    gbelow h5 (aggW_below (aggO_below (Below.refl _ _) (by omega) _ _) (Nat.le_refl _) _), aggW_row f1 hl⟩

set_option maxRecDepth 100000 in
set_option maxHeartbeats 1000000 in
theorem takeMac_any (b : Nat) (l : List UInt8) (k : Nat) (bad : Bool) (hl : l.length ≤ 1000000) (hk : k ≤ 1000000) (w : World) (h : RdAt w b l k bad) :
    Calls Try.prog 22 #[.pointer (some ⟨b, 0, none⟩)] w fun x w' => x = .returned (.agg (B8 (macOf (takeV l bad 6))).toArray) ∧ RdAt w' b (leftV l bad 6) (pastV l bad 6 k) (badV l bad 6) ∧ w.grownBy w' (some b) := by
  have HT := Lib.hid (TM.start w b l k bad h)
  have H6 := Lib.hid (takeV6 l bad)
  have HR : Hid (∀ W, RdAt W b l k bad → Calls Try.prog 32 #[.pointer (some ⟨b, 0, none⟩), .int .i64 6] W fun e w' => e = .returned (.string (Str (takeV l bad 6))) ∧ RdAt w' b (leftV l bad 6) (pastV l bad 6 k) (badV l bad 6) ∧ W.grownBy w' (some b)) := Lib.hid fun W hW => take_any b l k bad 6 hl hk W hW
  generalize takeV l bad 6 = t at H6 HR ⊢
  generalize leftV l bad 6 = l' at HR ⊢
  generalize pastV l bad 6 k = k' at HR ⊢
  generalize badV l bad 6 = bad' at HR ⊢
  have hfok := fok_bytes (macOf t) 6 (macOf_length H6.out)
  clear h
  go_enter Try.func22, Try.ntmps22
  go_upto_region 2 with (fail)
  generalize (w.alloc (.cells #[.int .u8 0, .int .u8 0, .int .u8 0, .int .u8 0, .int .u8 0, .int .u8 0] 23)).alloc (.cells #[.int .u8 0, .int .u8 0, .int .u8 0, .int .u8 0, .int .u8 0, .int .u8 0] 23) = W at HT ⊢
  go_region_law (first
    | (refine step_copy_str rfl (.tmp 4) (.tmp 6) 40 9 rfl Try.underlying40 (w.heap.size + 1) 0 6 6 (by simp [Act.eval]) t (by simp [Act.eval]) H6.out _ _ HT1.out.2.2.1 (by simp [B8_length]; exact H6.out) ?_)
    | (go_simp; go_at_call 32; refine (HR.out _ (HT.out.drewN 1).1).mono ?_; rintro x w1 ⟨rfl, hr1, hg1⟩; have HT1 := Lib.hid ((HT.out.drewN 1).grown hr1 hg1); clear hr1 hg1))
  obtain ⟨q1, q2, q3, q4, q5⟩ := HT1.out.copied H6.out
  go_wp2
  exact bodyPost_ret (results_cell Try.results22 rfl (ld_some q5 (ldr_mac _ _ _))) rfl ⟨rfl, q3, q4⟩
end Go.Proofs.Ytbanjmdfjodhaaa
