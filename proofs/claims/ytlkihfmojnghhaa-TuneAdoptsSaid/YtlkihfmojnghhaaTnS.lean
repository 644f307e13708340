/-
  Layer 14: the document's query, and how soon one is answered.
-/
import Derived.Test.YtlkihfmojnghhaaTnR
namespace Go.Proofs.Ytlkihfmojnghhaa
open Go.RowKit
set_option linter.unusedVariables false
set_option linter.unusedSimpArgs false
attribute [local go_sem ↓] ld_addr st_addr bld_addr ld_tk st_tk bld_tk ld_tn st_tn bld_tn
attribute [local go_sem] ldr_addr str_addr ldr_tk str_tk ldr_tn str_tn row?_drewN_eq row?_drew_eq

def clampI (n a b : Int) : Int := if n < a then a else if b < n then b else n
set_option maxRecDepth 100000 in
theorem rclamp_any (n a b : Int) (w : World) : Calls Try.prog 39 #[.int .i64 n, .int .i64 a, .int .i64 b] w fun e w' => e = .returned (.int .i64 (clampI n a b)) ∧ w = w' := by
  unfold clampI
  by_cases h1 : n < a
  · rw [if_pos h1]
    go_enter Try.func39, Try.ntmps39
    go_wp2
    go_ret
    exact ⟨rfl, rfl⟩
  · rw [if_neg h1]
    by_cases h2 : b < n
    · rw [if_pos h2]
      go_enter Try.func39, Try.ntmps39
      go_wp2
      go_ret
      exact ⟨rfl, rfl⟩
    · rw [if_neg h2]
      go_enter Try.func39, Try.ntmps39
      go_wp2
      go_ret
      exact ⟨rfl, rfl⟩
theorem bld_vq (v : Bool) (w : World) : (aggBuild 31 #[(0, .bool v)]).run Try.prog w = .ok (.agg (adC (v, z16)).toArray) w := bld_run _ _ _ (by kernel_rfl) _
theorem bld_tkq (v6 : Bool) (v : Int) (w : World) : (aggBuild 35 #[(0, .bool v6), (1, .int .i64 v), (2, .int .i64 1), (4, .agg (adC (v6, z16)).toArray)]).run Try.prog w = .ok (.agg (tkC ⟨v6, v, 1, 0, (v6, z16), false, 0, 0, [], []⟩ (.slice none 0 0) (.slice none 0 0)).toArray) w := bld_run _ _ _ (by kernel_rfl) _
/-- The parameters boxed, the result, and the query in block m. -/
structure Qr (w W : World) (m : Nat) (t : TN) (e : TK) : Prop where
  one : ObjAt W w.heap.size (tnC t).toArray 23
  res : ObjAt W (w.heap.size + 1) (tkC zeroT (.slice none 0 0) (.slice none 0 0)).toArray 35
  tk : TkAt W m e (.slice none 0 0) (.slice none 0 0)
  blw : Below w.heap.size w W
  lt : w.heap.size + 1 < m
theorem Qr.start {w W : World} {t : TN} (h : Bx w W (tnC t).toArray 23 (tkC zeroT (.slice none 0 0) (.slice none 0 0)).toArray 35) (e : TK) (ho : adOk e.g) : Qr w (aggW (W.alloc (.cells #[.bool false, .int .i64 0, .int .i64 0, .int .i64 0, .bool false, .int .u8 0, .int .u8 0, .int .u8 0, .int .u8 0, .int .u8 0, .int .u8 0, .int .u8 0, .int .u8 0, .int .u8 0, .int .u8 0, .int .u8 0, .int .u8 0, .int .u8 0, .int .u8 0, .int .u8 0, .int .u8 0, .bool false, .int .i64 0, .int .i64 0, .slice none 0 0, .slice none 0 0] 35)) W.heap.size (tkC e (.slice none 0 0) (.slice none 0 0))) W.heap.size t e := by
  have h1 : (tkC e (.slice none 0 0) (.slice none 0 0)).length = 26 := tkC_length ho _ _
  exact ⟨keepNew h.one, keepNew h.two, ⟨newObj W _ _ (by rw [h1]; rfl) (tkC_one rfl rfl), ho⟩, bstep h.blw (newBlw W _ _), h.two.lt⟩
theorem Qr.below {w W W' : World} {m : Nat} {t : TN} {e : TK} (h : Qr w W m t e) (hb : Below W.heap.size W W') : Qr w W' m t e := ⟨obj_keep h.one hb, obj_keep h.res hb, h.tk.below hb, bstep h.blw hb, h.lt⟩
theorem Qr.drew {w W : World} {m : Nat} {t : TN} {e : TK} (h : Qr w W m t e) : Qr w W.drew m t e := ⟨h.one, h.res, h.tk, bdrewN h.blw 1, h.lt⟩
theorem Qr.set {w W : World} {m : Nat} {t : TN} {e e' : TK} (h : Qr w W m t e) (j : Nat) (v : Value) (he : (tkC e (.slice none 0 0) (.slice none 0 0)).set j v = tkC e' (.slice none 0 0) (.slice none 0 0)) (ho : adOk e'.g) : Qr w (W.setCell ⟨m, j, none⟩ v) m t e' := by
  have hlt := h.lt
  refine ⟨h.one.other _ _ (by simp; omega), h.res.other _ _ (by simp; omega), ⟨?_, ho⟩, h.blw.setCell (p := ⟨m, j, none⟩) (by simp; omega) v, h.lt⟩
  have := ObjAt.set h.tk.1 j v
  rwa [List.setIfInBounds_toArray, he] at this
theorem Qr.facts {w W : World} {m : Nat} {t : TN} {e : TK} (h : Qr w W m t e) : W.cell? ⟨w.heap.size, 0, none⟩ = some (.int .i64 t.rob) ∧ W.cell? ⟨w.heap.size, 1, none⟩ = some (.int .i64 t.every) ∧ W.cell? ⟨w.heap.size, 2, none⟩ = some (.int .i64 t.resp) ∧ W.cell? ⟨m, 3, none⟩ = some (.int .i64 e.resp) ∧ W.cell? ⟨m, 22, none⟩ = some (.int .i64 e.rob) ∧ W.cell? ⟨m, 23, none⟩ = some (.int .i64 e.every) ∧ W.frozen? ⟨m, 3, none⟩ = false ∧ W.frozen? ⟨m, 22, none⟩ = false ∧ W.frozen? ⟨m, 23, none⟩ = false ∧ row? W m 0 26 = some (tkC e (.slice none 0 0) (.slice none 0 0)) ∧ free? W (w.heap.size + 1) 0 26 = true :=
  ⟨(tn_c h.one).1, (tn_c h.one).2.1, (tn_c h.one).2.2.1, h.tk.resp, h.tk.rob, h.tk.every, h.tk.1.free 3, h.tk.1.free 22, h.tk.1.free 23, h.tk.row, obj_free_at h.res 0 26 (by have := tkC_length (t := zeroT) zeroA_ok (.slice none 0 0) (.slice none 0 0); simp only [List.size_toArray]; omega)⟩
theorem z16_ok (v6 : Bool) : adOk (v6, z16) := rfl
end Go.Proofs.Ytlkihfmojnghhaa
