/-
  Texts joined: TkC, TkG.
-/
import Derived.Test.YtacnhelnpngkgaaMg13
import Derived.Test.YtacnhelnpngkgaaMg15
import Derived.Deep.AppendLies
import Derived.Great.BuildSlice
/-
  The document's own four and sources of layer 8.
-/
namespace Go.Proofs.Ytacnhelnpngkgaa
open Go.RowKit
set_option linter.unusedVariables false
attribute [local go_sem ↓] ld_addr st_addr bld_addr
attribute [local go_sem] ldr_addr str_addr row?_drewN_eq row?_drew_eq

/-- A row of addresses of one's own. -/
def adsC (l : List AD) : List Value := (l.map adC).flatten
theorem adsC_get {l : List AD} (h : ∀ a ∈ l, adOk a) : ∀ (i j : Nat) (hi : i < l.length), j < 17 → (adsC l)[i * 17 + j]? = (adC l[i])[j]? := by
  induction l with
  | nil => intro i j hi; exact absurd hi (by simp)
  | cons a r ih =>
    intro i j hi hj
    have h1 := adC_length (h a (by simp))
    have e : adsC (a :: r) = adC a ++ adsC r := by simp [adsC]
    rw [e]
    cases i with
    | zero => rw [Nat.zero_mul, Nat.zero_add, List.getElem?_append_left (by omega)]; rfl
    | succ i =>
      rw [List.getElem?_append_right (by omega), h1, show (i + 1) * 17 + j - 17 = i * 17 + j by omega]
      exact ih (fun b hb => h b (by simp [hb])) i j (by simpa using hi) hj
theorem Ads.own {w : World} {base : Nat} {v : Value} {l : List AD} (ho : ∀ a ∈ l, adOk a) (h : w.ownsRow base 24 17 v l.length (adsC l)) : Ads w v l := by
  obtain ⟨h1, h2 | ⟨g, cap, cur, rfl, h3, h4, h5, h6, h7, h8⟩⟩ := h
  · obtain ⟨rfl, h2⟩ := h2
    have : l = [] := List.eq_nil_of_length_eq_zero h2
    subst this
    exact Ads.nil w
  · refine ⟨some ⟨g, 0, none⟩, cap, rfl, h5, h6, ho, fun hn => ⟨g, 0, rfl, (Array.getElem?_eq_some_iff.1 h4).1, fun i hi => ?_⟩⟩
    have hob : ObjAt w g cur 24 := h4
    have hr : w.rangeAt g (0 + i * 17) (adC l[i]) := fun j u hu => by
      have hj : j < 17 := by
        have := (List.getElem?_eq_some_iff.1 hu).1
        rw [adC_length (ho _ (List.getElem_mem hi))] at this
        exact this
      rw [ObjAt.cell hob, ← Array.getElem?_toList]
      have e1 := adsC_get ho i j hi hj
      rw [hu, ← h8, List.getElem?_take] at e1
      rw [Nat.zero_add]
      split at e1
      · exact e1
      · cases e1
    have := row?_of hr
    rw [adC_length (ho _ (List.getElem_mem hi))] at this
    exact this
theorem own_below8 {w w' : World} {base : Nat} {e : TypeId} {size : Nat} {v : Value} {n : Nat} {xs : List Value} (h : w.ownsRow base e size v n xs) (hb : Below w.heap.size w w') : w'.ownsRow base e size v n xs := by
  obtain ⟨h1, h2 | ⟨g, cap, cur, e1, e2, e3, e4⟩⟩ := h
  · exact ⟨h1, .inl h2⟩
  · exact ⟨h1, .inr ⟨g, cap, cur, e1, e2, (hb.block g (Array.getElem?_eq_some_iff.1 e3).1).trans e3, e4⟩⟩
/-- A slice literal of one address, as one step. -/
noncomputable def adsLit (p : Array (Nat × Value)) : Sem Value := Instr.buildSlice 25 1 p
theorem adsLit_eq (p : Array (Nat × Value)) : Instr.buildSlice 25 1 p = adsLit p := rfl
attribute [local go_sem ↓] adsLit_eq
theorem info_ad : (Try.prog.info? 24).map (fun i => (i.zero, i.size, i.bytes)) = some (some (.agg #[.bool false, .int .u8 0, .int .u8 0, .int .u8 0, .int .u8 0, .int .u8 0, .int .u8 0, .int .u8 0, .int .u8 0, .int .u8 0, .int .u8 0, .int .u8 0, .int .u8 0, .int .u8 0, .int .u8 0, .int .u8 0, .int .u8 0]), 17, 17) := by kernel_rfl
theorem adsLit_run (a : AD) (ho : adOk a) (w : World) : (adsLit #[(0, .agg (adC a).toArray)]).run Try.prog w = .ok (.slice (some ⟨w.heap.size, 0, none⟩) 1 1) (w.alloc (.cells (adC a).toArray 24)) := by
  obtain ⟨i0, hi0, hz0, hz1, hz2⟩ := info_parts info_ad
  obtain ⟨v, l⟩ := a
  obtain ⟨b0, b1, b2, b3, b4, b5, b6, b7, b8, b9, ba, bb, bc, bd, be, bf, e⟩ := list16 (show l.length = 16 from ho)
  subst e
  refine run_buildSlice w 25 24 1 _ _ i0 _ Try.underlying25 hi0 hz0 (by rw [hz1]; decide) (by rw [hz1]; decide) ?_
  rw [hz1]
  kernel_rfl
/-- A slice of addresses whose block holds addresses. -/
def AdT (w : World) (v : Value) : Prop := ∀ (b o n c : Nat), v = .slice (some ⟨b, o, none⟩) n c → b < w.heap.size ∧ ∃ cur fz, w.heap[b]? = some (.cells cur 24 fz)
theorem AdT.below {w w' : World} {v : Value} (h : AdT w v) (hb : Below w.heap.size w w') : AdT w' v := fun b o n c e => by
  obtain ⟨h1, cur, fz, h2⟩ := h b o n c e
  exact ⟨Nat.lt_of_lt_of_le h1 hb.size, cur, fz, (hb.block b h1).trans h2⟩
theorem AdT.own {w : World} {base : Nat} {v : Value} {n : Nat} {xs : List Value} (h : w.ownsRow base 24 17 v n xs) : AdT w v := fun b o n' c e => by
  obtain ⟨h1, h2 | ⟨g, cap, cur, rfl, h3, h4, h5, h6, h7, h8⟩⟩ := h
  · rw [h2.1] at e; cases e
  · simp only [Value.slice.injEq, Option.some.injEq, Addr.mk.injEq] at e
    obtain ⟨⟨rfl, _⟩, _⟩ := e
    exact ⟨(Array.getElem?_eq_some_iff.1 h4).1, cur, _, h4⟩
end Go.Proofs.Ytacnhelnpngkgaa

/-
  The document's own Good of layer 8, but for reports of version 3.
-/
namespace Go.Proofs.Ytacnhelnpngkgaa
open Go.RowKit
set_option linter.unusedVariables false
attribute [local go_sem ↓] ld_addr st_addr bld_addr
attribute [local go_sem] ldr_addr str_addr

theorem bld_zeroA (w0 : World) : (aggBuild 24 #[]).run Try.prog w0 = .ok (.agg (adC zeroA).toArray) w0 := bld_run _ _ _ (by kernel_rfl) _
/-- The talk boxed, the zero address behind it. -/
def GD (w W : World) (t : TK) (us ur : Value) : Prop := TkAt W w.heap.size t us ur ∧ ObjAt W (w.heap.size + 1) (adC zeroA).toArray 24 ∧ Below w.heap.size w W
theorem GD.made (w : World) (t : TK) (us ur : Value) (h : adOk t.g) : GD w (aggW ((w.alloc (.cells (tkC t us ur).toArray 28)).alloc (.cells #[.bool false, .int .u8 0, .int .u8 0, .int .u8 0, .int .u8 0, .int .u8 0, .int .u8 0, .int .u8 0, .int .u8 0, .int .u8 0, .int .u8 0, .int .u8 0, .int .u8 0, .int .u8 0, .int .u8 0, .int .u8 0, .int .u8 0] 24)) (w.heap.size + 1) (adC zeroA)) t us ur := by
  have s1 : (w.alloc (.cells (tkC t us ur).toArray 28)).heap.size = w.heap.size + 1 := by simp
  have h1 := (ObjAt.made (w.alloc (.cells (tkC t us ur).toArray 28)) #[.bool false, .int .u8 0, .int .u8 0, .int .u8 0, .int .u8 0, .int .u8 0, .int .u8 0, .int .u8 0, .int .u8 0, .int .u8 0, .int .u8 0, .int .u8 0, .int .u8 0, .int .u8 0, .int .u8 0, .int .u8 0, .int .u8 0] 24)
  rw [s1] at h1
  refine ⟨⟨aggW_other (ObjAt.alloc (TkAt.made w t us ur h).1 _) _ (by omega), h⟩, aggW_obj (L := adC zeroA) h1 rfl (addrC_one _ _), aggW_below (((Below.refl _ _).alloc (Nat.le_refl _) _).alloc (by simp) _) (by omega) _⟩
theorem GD.below {w W W' : World} {t : TK} {us ur : Value} (h : GD w W t us ur) (hb : Below W.heap.size W W') : GD w W' t us ur := ⟨h.1.below hb, h.2.1.below hb h.2.1.lt, bstep h.2.2 hb⟩
/-- What Good reads. -/
def GC (w W : World) (t : TK) (us ur : Value) : Prop :=
  W.cell? ⟨w.heap.size, 0, none⟩ = some (.bool t.v6) ∧ W.cell? ⟨w.heap.size, 1, none⟩ = some (.int .i64 t.ver) ∧ W.cell? ⟨w.heap.size, 2, none⟩ = some (.int .i64 t.kind) ∧ W.cell? ⟨w.heap.size, 3, none⟩ = some (.int .i64 t.resp) ∧ row? W w.heap.size 4 17 = some (adC t.g) ∧ W.cell? ⟨w.heap.size, 21, none⟩ = some (.bool t.quiet) ∧ W.cell? ⟨w.heap.size, 22, none⟩ = some (.int .i64 t.rob) ∧ W.cell? ⟨w.heap.size, 23, none⟩ = some (.int .i64 t.every) ∧ W.cell? ⟨w.heap.size, 24, none⟩ = some us ∧ W.cell? ⟨w.heap.size, 25, none⟩ = some ur ∧ row? W (w.heap.size + 1) 0 17 = some (adC zeroA)
theorem GD.cells {w W : World} {t : TK} {us ur : Value} (h : GD w W t us ur) : GC w W t us ur :=
  ⟨h.1.v6, h.1.ver, h.1.kind, h.1.resp, h.1.rg, h.1.quiet, h.1.rob, h.1.every, h.1.us, h.1.ur, obj_rowk (A := []) (M := adC zeroA) (C := []) (by simpa using h.2.1) rfl (adC_length zeroA_ok)⟩


set_option maxRecDepth 100000 in
set_option maxHeartbeats 4000000 in
theorem rgood8_bad (t : TK) (us ur : Value) (w : World) (ho : t.ok) (hs : Ads w us t.src) (hr : Rcs w ur t.rcs) (hb : t.v6 = true ∨ t.ver < 1 ∨ 3 < t.ver ∨ t.kind < 1 ∨ 3 < t.kind) (R : Bool) (hR : R = good8 t) :
    Calls Try.prog 23 #[.agg (tkC t us ur).toArray] w fun x w' => x = .returned (.bool R) ∧ Below w.heap.size w w' := by
  have H0 := Lib.hid (GD.made w t us ur ho.1)
  have HGD : Hid (∀ W, GD w W t us ur → GC w W t us ur) := Lib.hid fun W h => h.cells
  have HG := Lib.hid (fun W => rgroup8_any t.g ho.1 W)
  have HX1 := Lib.hid (fun W => rexact8 t.resp W)
  have HX2 := Lib.hid (fun W => rexact8 t.every W)
  have HS := Lib.hid (fun W (h : Below w.heap.size w W) => rsources8_any us t.src W (hs.below h))
  have q := fun w0 => eq_ad t.g zeroA ho.1 zeroA_ok w0
  have hbz := bld_zeroA
  have hfz : fok (adC zeroA).toArray 17 = true := fok_addr false _ zeroA_ok
  have hfm := free_made (w.alloc (.cells (tkC t us ur).toArray 28)) #[.bool false, .int .u8 0, .int .u8 0, .int .u8 0, .int .u8 0, .int .u8 0, .int .u8 0, .int .u8 0, .int .u8 0, .int .u8 0, .int .u8 0, .int .u8 0, .int .u8 0, .int .u8 0, .int .u8 0, .int .u8 0, .int .u8 0] 24 17 (by simp)
  rw [show (w.alloc (.cells (tkC t us ur).toArray 28)).heap.size = w.heap.size + 1 by simp] at hfm
  obtain ⟨pu, cu, e1, hu1, hu2⟩ := hs.len
  obtain ⟨pr, cr, e2, hr1, hr2⟩ := hr.len
  have hm1 : t.src.length ≤ maxLen := by omega
  have hm2 : t.rcs.length ≤ maxLen := by omega
  unfold maxLen at hm1 hm2
  clear hs hr hu1 hu2 hr1 hr2 ho
  obtain ⟨v6, ver, kind, resp, g, quiet, rob, every, src, rcs⟩ := t
  simp only at *
  have HR := Lib.hid (show R = false by rw [hR]; unfold good8; rw [if_pos hb])
  clear hR q HX1 HX2 HS HG hm1 hm2
  subst e1 e2
  have H0 := Lib.hid H0.out
  go_enter Try.func23, Try.ntmps23
  go_upto_region 2 with (fail)
  generalize aggW ((w.alloc (.cells (tkC _ _ _).toArray 28)).alloc (.cells #[.bool false, .int .u8 0, .int .u8 0, .int .u8 0, .int .u8 0, .int .u8 0, .int .u8 0, .int .u8 0, .int .u8 0, .int .u8 0, .int .u8 0, .int .u8 0, .int .u8 0, .int .u8 0, .int .u8 0, .int .u8 0, .int .u8 0] 24)) (w.heap.size + 1) _ = W at H0 ⊢
  obtain ⟨c0, c1, c2, c3, c4, c5, c6, c7, c8, c9, c10⟩ := HGD.out _ H0.out
  clear hfm hbz hfz
  clear c3 c4 c5 c6 c7 c8 c9 c10 HGD
  cases v6 with
  | true =>
    go_upto_region 4 with (fail)
    go_ret
    exact ⟨ret_bool8 (by rw [HR.out]), H0.out.2.2⟩
  | false =>
    by_cases b1 : ver < 1
    · clear hb
      go_wp2
      go_ret
      exact ⟨ret_bool8 (by rw [HR.out]), H0.out.2.2⟩
    by_cases b2 : 3 < ver
    · clear hb
      go_wp2
      go_ret
      exact ⟨ret_bool8 (by rw [HR.out]), H0.out.2.2⟩
    by_cases b3 : kind < 1
    · clear hb
      go_wp2
      go_ret
      exact ⟨ret_bool8 (by rw [HR.out]), H0.out.2.2⟩
    by_cases b4 : 3 < kind
    · clear hb
      go_wp2
      go_ret
      exact ⟨ret_bool8 (by rw [HR.out]), H0.out.2.2⟩
    · exfalso; simp at hb; omega

end Go.Proofs.Ytacnhelnpngkgaa

