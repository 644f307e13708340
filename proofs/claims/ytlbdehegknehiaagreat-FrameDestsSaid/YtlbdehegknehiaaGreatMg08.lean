/-
  Texts joined: Rread, TkC, TkG, TkJ.
-/
import Derived.Test.YtlbdehegknehiaaGreatMg00
import Derived.Test.YtlbdehegknehiaaGreatMg02
import Derived.Test.YtlbdehegknehiaaGreatMg03
import Derived.Test.YtlbdehegknehiaaGreatMg07
import Derived.Deep.AppendLies
import Derived.Great.BuildSlice
/- A part of the proof. -/
namespace Go.Proofs.YtlbdehegknehiaaGreat
open Go.RowKit
set_option linter.unusedVariables false
attribute [local go_sem ↓] bld_addr bld_mac bld_b16 ld_addr st_addr ld_mac st_mac ld_b16
attribute [local go_sem] ldr_addr str_addr ldr_mac str_mac ldr_b16
def RdS (w wr : World) (v : Bool) (s : List UInt8) (k : Nat) : Prop :=
  ObjAt wr w.heap.size (addrC false (List.replicate 16 0)).toArray 24 ∧ ObjAt wr (w.heap.size + 1) (addrC v (s.take k ++ List.replicate (16 - k) 0)).toArray 24 ∧ Below w.heap.size w wr
theorem addrC_set (v : Bool) (l : List UInt8) (k : Nat) (c : UInt8) : (addrC v l).toArray.setIfInBounds (1 + k) (.int .u8 (c.toNat : Int)) = (addrC v (l.set k c)).toArray := by
  apply Array.ext'
  rw [Array.toList_setIfInBounds]
  show (Value.bool v :: B8 l).set (1 + k) _ = Value.bool v :: B8 (l.set k c)
  rw [Nat.add_comm, zsS]
  unfold B8
  rw [List.map_set]
theorem RdS.step {w wr : World} {v : Bool} {s : List UInt8} {k : Nat} (h : RdS w wr v s k) (hk : k < s.length) (h16 : s.length ≤ 16) : RdS w (wr.setCell ⟨w.heap.size + 1, 1 + k, none⟩ (.int .u8 ((s[k]).toNat : Int))) v s (k + 1) := by
  obtain ⟨h1, h2, h3⟩ := h
  refine ⟨ObjAt.other h1 ⟨w.heap.size + 1, 1 + k, none⟩ _ (by simp), ?_, h3.setCell (p := ⟨w.heap.size + 1, 1 + k, none⟩) (by simp) _⟩
  have o1 := h2.set (1 + k) (.int .u8 ((s[k]).toNat : Int))
  rw [addrC_set] at o1
  have e : (s.take k ++ List.replicate (16 - k) 0).set k s[k] = s.take (k + 1) ++ List.replicate (16 - (k + 1)) 0 := by
    rw [List.set_append_right _ _ (by simp; omega), show 16 - k = (16 - (k + 1)) + 1 by omega, List.replicate_succ, show k - (s.take k).length = 0 by simp; omega, zsZ]
    rw [List.take_succ_eq_append_getElem hk, List.append_assoc]
    rfl
  rw [e] at o1
  exact o1
theorem RdS.cell {w wr : World} {v : Bool} {s : List UInt8} {k : Nat} (h : RdS w wr v s k) (hk : k < s.length) (h16 : s.length ≤ 16) : wr.cell? ⟨w.heap.size + 1, 1 + k, none⟩ = some (.int .u8 0) := by
  rw [h.2.1.cell, List.getElem?_toArray]
  rw [show addrC v (s.take k ++ List.replicate (16 - k) 0) = .bool v :: B8 (s.take k ++ List.replicate (16 - k) 0) from rfl, Nat.add_comm, List.getElem?_cons_succ]
  unfold B8
  rw [List.getElem?_map, List.getElem?_append_right (by simp; omega)]
  simp
  have : k - min k s.length < 16 - k := by omega
  simp [this]
theorem RdS.frz {w wr : World} {v : Bool} {s : List UInt8} {k : Nat} (h : RdS w wr v s k) : wr.frozen? ⟨w.heap.size + 1, 1 + k, none⟩ = false := h.2.1.free _
theorem RdS.row {w wr : World} {v : Bool} {s : List UInt8} {k : Nat} (h : RdS w wr v s k) (hk : k ≤ s.length) (h16 : s.length ≤ 16) : row? wr (w.heap.size + 1) 0 17 = some (addrC v (s.take k ++ List.replicate (16 - k) 0)) :=
  obj_row (A := []) (M := addrC v (s.take k ++ List.replicate (16 - k) 0)) (C := []) (by simpa using h.2.1) rfl (by rw [addrC_length]; simp; omega)
theorem RdS.free {w wr : World} {v : Bool} {s : List UInt8} {k : Nat} (h : RdS w wr v s k) : free? wr w.heap.size 0 17 = true := obj_free (n := 17) h.1 (by simp [addrC_length])
theorem RdS.start (w : World) (v : Bool) (s : List UInt8) : RdS w (aggW ((w.alloc (.cells zz17 24)).alloc (.cells zz17 24)) (w.heap.size + 1) [.bool v, .int .u8 0, .int .u8 0, .int .u8 0, .int .u8 0, .int .u8 0, .int .u8 0, .int .u8 0, .int .u8 0, .int .u8 0, .int .u8 0, .int .u8 0, .int .u8 0, .int .u8 0, .int .u8 0, .int .u8 0, .int .u8 0]) v s 0 := by
  have h0 := (ObjAt.made w zz17 24).alloc (.cells zz17 24)
  have h1 := ObjAt.made (w.alloc (.cells zz17 24)) zz17 24
  have hz : (w.alloc (.cells zz17 24)).heap.size = w.heap.size + 1 := by simp
  rw [hz] at h1
  have hb : Below w.heap.size w ((w.alloc (.cells zz17 24)).alloc (.cells zz17 24)) := ((Below.refl _ _).alloc (Nat.le_refl _) _).alloc (by simp) _
  exact ⟨aggW_other h0 _ (by omega), aggW_obj (cs := [.bool v, .int .u8 0, .int .u8 0, .int .u8 0, .int .u8 0, .int .u8 0, .int .u8 0, .int .u8 0, .int .u8 0, .int .u8 0, .int .u8 0, .int .u8 0, .int .u8 0, .int .u8 0, .int .u8 0, .int .u8 0, .int .u8 0]) h1 rfl (addrC_one v (List.replicate 16 0)), aggW_below hb (by omega) _⟩
theorem RdS.done {w wr : World} {v : Bool} {s : List UInt8} {k : Nat} (h : RdS w wr v s k) (cs : List Value) (hc : cs.length = 17) : row? (aggW wr w.heap.size cs) w.heap.size 0 17 = some cs ∧ Below w.heap.size w (aggW wr w.heap.size cs) :=
  ⟨aggW_row h.free hc, aggW_below h.2.2 (Nat.le_refl _) _⟩
theorem RdS.done2 {w wr : World} {v : Bool} {s : List UInt8} {k : Nat} (h : RdS w wr v s k) (h1 : s.length ≤ 16) : row? (aggW wr w.heap.size (addrC v (readV s))) w.heap.size 0 17 = some (addrC v (readV s)) ∧ Below w.heap.size w (aggW wr w.heap.size (addrC v (readV s))) :=
  h.done _ (by rw [addrC_length, readV_length s h1])
end Go.Proofs.YtlbdehegknehiaaGreat

/- A part of the proof. -/
namespace Go.Proofs.YtlbdehegknehiaaGreat
open Go.RowKit
set_option linter.unusedVariables false
attribute [local go_sem ↓] ld_addr st_addr bld_addr
attribute [local go_sem] ldr_addr str_addr row?_drewN_eq row?_drew_eq
theorem fourL_ok (s : List UInt8) (i : Nat) : adOk (fourL s i) := readV_length _ (by simp; omega)
def adsC (l : List AD) : List Value := (l.map adC).flatten
theorem adsC_get {l : List AD} (h : ∀ a ∈ l, adOk a) : ∀ (i j : Nat) (hi : i < l.length), j < 17 → (adsC l)[i * 17 + j]? = (adC l[i])[j]? := by
  induction l with
  | nil => intro i j hi; exact absurd hi (by simp)
  | cons a r ih =>
    intro i j hi hj
    have h1 := adC_length (h a (by simp))
    have e : adsC (a :: r) = adC a ++ adsC r := by simp [adsC]
    rw [e]
    cases i with
    | zero => rw [Nat.zero_mul, Nat.zero_add, List.getElem?_append_left (by omega)]; rfl
    | succ i =>
      rw [List.getElem?_append_right (by omega), h1, show (i + 1) * 17 + j - 17 = i * 17 + j by omega]
      exact ih (fun b hb => h b (by simp [hb])) i j (by simpa using hi) hj
theorem Ads.own {w : World} {base : Nat} {v : Value} {l : List AD} (ho : ∀ a ∈ l, adOk a) (h : w.ownsRow base 24 17 v l.length (adsC l)) : Ads w v l := by
  obtain ⟨h1, h2 | ⟨g, cap, cur, rfl, h3, h4, h5, h6, h7, h8⟩⟩ := h
  · obtain ⟨rfl, h2⟩ := h2
    have : l = [] := List.eq_nil_of_length_eq_zero h2
    subst this
    exact Ads.nil w
  · refine ⟨some ⟨g, 0, none⟩, cap, rfl, h5, h6, ho, fun hn => ⟨g, 0, rfl, (Array.getElem?_eq_some_iff.1 h4).1, fun i hi => ?_⟩⟩
    have hob : ObjAt w g cur 24 := h4
    have hr : w.rangeAt g (0 + i * 17) (adC l[i]) := fun j u hu => by
      have hj : j < 17 := by
        have := (List.getElem?_eq_some_iff.1 hu).1
        rw [adC_length (ho _ (List.getElem_mem hi))] at this
        exact this
      rw [ObjAt.cell hob, ← Array.getElem?_toList]
      have e1 := adsC_get ho i j hi hj
      rw [hu, ← h8, List.getElem?_take] at e1
      rw [Nat.zero_add]
      split at e1
      · exact e1
      · cases e1
    have := row?_of hr
    rw [adC_length (ho _ (List.getElem_mem hi))] at this
    exact this
theorem srcsL_length (s : List UInt8) (i n : Nat) : (srcsL s i n).length = n := by unfold srcsL; simp
theorem own_below8 {w w' : World} {base : Nat} {e : TypeId} {size : Nat} {v : Value} {n : Nat} {xs : List Value} (h : w.ownsRow base e size v n xs) (hb : Below w.heap.size w w') : w'.ownsRow base e size v n xs := by
  obtain ⟨h1, h2 | ⟨g, cap, cur, e1, e2, e3, e4⟩⟩ := h
  · exact ⟨h1, .inl h2⟩
  · exact ⟨h1, .inr ⟨g, cap, cur, e1, e2, (hb.block g (Array.getElem?_eq_some_iff.1 e3).1).trans e3, e4⟩⟩
noncomputable def adsLit (p : Array (Nat × Value)) : Sem Value := Instr.buildSlice 25 1 p
theorem adsLit_eq (p : Array (Nat × Value)) : Instr.buildSlice 25 1 p = adsLit p := rfl
attribute [local go_sem ↓] adsLit_eq
theorem info_ad : (Tryz.prog.info? 24).map (fun i => (i.zero, i.size, i.bytes)) = some (some (.agg zz17), 17, 17) := by kernel_rfl
theorem adsLit_run (a : AD) (ho : adOk a) (w : World) : (adsLit #[(0, .agg (adC a).toArray)]).run Tryz.prog w = .ok (.slice (some ⟨w.heap.size, 0, none⟩) 1 1) (w.alloc (.cells (adC a).toArray 24)) := by
  obtain ⟨i0, hi0, hz0, hz1, hz2⟩ := info_parts info_ad
  obtain ⟨v, l⟩ := a
  obtain ⟨b0, b1, b2, b3, b4, b5, b6, b7, b8, b9, ba, bb, bc, bd, be, bf, e⟩ := list16 (show l.length = 16 from ho)
  subst e
  refine run_buildSlice w 25 24 1 _ _ i0 _ Tryz.underlying25 hi0 hz0 (by rw [hz1]; decide) (by rw [hz1]; decide) ?_
  rw [hz1]
  kernel_rfl
def AdT (w : World) (v : Value) : Prop := ∀ (b o n c : Nat), v = .slice (some ⟨b, o, none⟩) n c → b < w.heap.size ∧ ∃ cur fz, w.heap[b]? = some (.cells cur 24 fz)
theorem AdT.below {w w' : World} {v : Value} (h : AdT w v) (hb : Below w.heap.size w w') : AdT w' v := fun b o n c e => by
  obtain ⟨h1, cur, fz, h2⟩ := h b o n c e
  exact ⟨Nat.lt_of_lt_of_le h1 hb.size, cur, fz, (hb.block b h1).trans h2⟩
theorem AdT.own {w : World} {base : Nat} {v : Value} {n : Nat} {xs : List Value} (h : w.ownsRow base 24 17 v n xs) : AdT w v := fun b o n' c e => by
  obtain ⟨h1, h2 | ⟨g, cap, cur, rfl, h3, h4, h5, h6, h7, h8⟩⟩ := h
  · rw [h2.1] at e; cases e
  · simp only [Value.slice.injEq, Option.some.injEq, Addr.mk.injEq] at e
    obtain ⟨⟨rfl, _⟩, _⟩ := e
    exact ⟨(Array.getElem?_eq_some_iff.1 h4).1, cur, _, h4⟩
theorem AdT.lit (w : World) : Ads (w.alloc (.cells #[] 24)) (.slice (some ⟨w.heap.size, 0, none⟩) 0 0) [] ∧ AdT (w.alloc (.cells #[] 24)) (.slice (some ⟨w.heap.size, 0, none⟩) 0 0) := by
  have h := World.ownsRow_lit w (e := 24) (size := 17) #[] 0 (Nat.le_refl _) (by unfold maxLen; omega) (by simp)
  exact ⟨Ads.own (l := []) (fun a h => by cases h) h, AdT.own h⟩
end Go.Proofs.YtlbdehegknehiaaGreat

/- A part of the proof. -/
namespace Go.Proofs.YtlbdehegknehiaaGreat
set_option maxRecDepth 100000
set_option maxHeartbeats 4000000
open Go.RowKit
set_option linter.unusedVariables false
attribute [local go_sem ↓] ld_addr st_addr bld_addr
attribute [local go_sem] ldr_addr str_addr
theorem bld_zeroA (w0 : World) : (aggBuild 24 #[]).run Tryz.prog w0 = .ok (.agg (adC zeroA).toArray) w0 := bld_run _ _ _ (by kernel_rfl) _
def GD (w W : World) (t : TK) (us ur : Value) : Prop := TkAt W w.heap.size t us ur ∧ ObjAt W (w.heap.size + 1) (adC zeroA).toArray 24 ∧ Below w.heap.size w W
theorem GD.made (w : World) (t : TK) (us ur : Value) (h : adOk t.g) : GD w (aggW ((w.alloc (.cells (tkC t us ur).toArray 28)).alloc (.cells zz17 24)) (w.heap.size + 1) (adC zeroA)) t us ur := by
  have s1 : (w.alloc (.cells (tkC t us ur).toArray 28)).heap.size = w.heap.size + 1 := by simp
  have h1 := (ObjAt.made (w.alloc (.cells (tkC t us ur).toArray 28)) zz17 24)
  rw [s1] at h1
  refine ⟨⟨aggW_other (ObjAt.alloc (TkAt.made w t us ur h).1 _) _ (by omega), h⟩, aggW_obj (L := adC zeroA) h1 rfl (addrC_one _ _), aggW_below (((Below.refl _ _).alloc (Nat.le_refl _) _).alloc (by simp) _) (by omega) _⟩
theorem GD.below {w W W' : World} {t : TK} {us ur : Value} (h : GD w W t us ur) (hb : Below W.heap.size W W') : GD w W' t us ur := ⟨h.1.below hb, h.2.1.below hb h.2.1.lt, bstep h.2.2 hb⟩
def GC (w W : World) (t : TK) (us ur : Value) : Prop :=
  W.cell? ⟨w.heap.size, 0, none⟩ = some (.bool t.v6) ∧ W.cell? ⟨w.heap.size, 1, none⟩ = some (.int .i64 t.ver) ∧ W.cell? ⟨w.heap.size, 2, none⟩ = some (.int .i64 t.kind) ∧ W.cell? ⟨w.heap.size, 3, none⟩ = some (.int .i64 t.resp) ∧ row? W w.heap.size 4 17 = some (adC t.g) ∧ W.cell? ⟨w.heap.size, 21, none⟩ = some (.bool t.quiet) ∧ W.cell? ⟨w.heap.size, 22, none⟩ = some (.int .i64 t.rob) ∧ W.cell? ⟨w.heap.size, 23, none⟩ = some (.int .i64 t.every) ∧ W.cell? ⟨w.heap.size, 24, none⟩ = some us ∧ W.cell? ⟨w.heap.size, 25, none⟩ = some ur ∧ row? W (w.heap.size + 1) 0 17 = some (adC zeroA)
theorem GD.cells {w W : World} {t : TK} {us ur : Value} (h : GD w W t us ur) : GC w W t us ur :=
  ⟨h.1.v6, h.1.ver, h.1.kind, h.1.resp, h.1.rg, h.1.quiet, h.1.rob, h.1.every, h.1.us, h.1.ur, obj_rowk (A := []) (M := adC zeroA) (C := []) (by simpa using h.2.1) rfl (adC_length zeroA_ok)⟩
theorem rgood8_bad (t : TK) (us ur : Value) (w : World) (ho : t.ok) (hs : Ads w us t.src) (hr : Rcs w ur t.rcs) (hb : t.v6 = true ∨ t.ver < 1 ∨ 3 < t.ver ∨ t.kind < 1 ∨ 3 < t.kind) (R : Bool) (hR : R = good8 t) :
    Calls Tryz.prog 62 #[.agg (tkC t us ur).toArray] w fun x w' => x = .returned (.bool R) ∧ Below w.heap.size w w' := by
  have H0 := zh (GD.made w t us ur ho.1)
  have HGD : Hid (∀ W, GD w W t us ur → GC w W t us ur) := zh fun W h => h.cells
  have HG := zh (fun W => rgroup8_any t.g ho.1 W)
  have HX1 := zh (fun W => rexact8 t.resp W)
  have HX2 := zh (fun W => rexact8 t.every W)
  have HS := zh (fun W (h : Below w.heap.size w W) => rsources8_any us t.src W (hs.below h))
  have q := fun w0 => eq_ad t.g zeroA ho.1 zeroA_ok w0
  have hbz := bld_zeroA
  have hfz : fok (adC zeroA).toArray 17 = true := fok_addr false _ zeroA_ok
  have hfm := free_made (w.alloc (.cells (tkC t us ur).toArray 28)) zz17 24 17 (by simp)
  rw [show (w.alloc (.cells (tkC t us ur).toArray 28)).heap.size = w.heap.size + 1 by simp] at hfm
  obtain ⟨pu, cu, e1, hu1, hu2⟩ := hs.len
  obtain ⟨pr, cr, e2, hr1, hr2⟩ := hr.len
  have hm1 : t.src.length ≤ maxLen := by omega
  have hm2 : t.rcs.length ≤ maxLen := by omega
  unfold maxLen at hm1 hm2
  clear hs hr hu1 hu2 hr1 hr2 ho
  obtain ⟨v6, ver, kind, resp, g, quiet, rob, every, src, rcs⟩ := t
  simp only at *
  have HR := zh (show R = false by rw [hR]; unfold good8; rw [if_pos hb])
  clear hR q HX1 HX2 HS HG hm1 hm2
  subst e1 e2
  have H0 := zh H0.out
  go_enter Tryz.func62, Tryz.ntmps62
  go_upto_region 2 with (fail)
  generalize aggW ((w.alloc (.cells (tkC _ _ _).toArray 28)).alloc (.cells zz17 24)) (w.heap.size + 1) _ = W at H0 ⊢
  obtain ⟨c0, c1, c2, c3, c4, c5, c6, c7, c8, c9, c10⟩ := HGD.out _ H0.out
  clear hfm hbz hfz
  clear c3 c4 c5 c6 c7 c8 c9 c10 HGD
  cases v6 with
  | true =>
    go_upto_region 4 with (fail)
    go_ret
    exact ⟨ret_bool8 (by rw [HR.out]), H0.out.2.2⟩
  | false =>
    by_cases b1 : ver < 1
    · clear hb
      go_wp2
      go_ret
      exact ⟨ret_bool8 (by rw [HR.out]), H0.out.2.2⟩
    by_cases b2 : 3 < ver
    · clear hb
      go_wp2
      go_ret
      exact ⟨ret_bool8 (by rw [HR.out]), H0.out.2.2⟩
    by_cases b3 : kind < 1
    · clear hb
      go_wp2
      go_ret
      exact ⟨ret_bool8 (by rw [HR.out]), H0.out.2.2⟩
    by_cases b4 : 3 < kind
    · clear hb
      go_wp2
      go_ret
      exact ⟨ret_bool8 (by rw [HR.out]), H0.out.2.2⟩
    · exfalso; simp at hb; omega
end Go.Proofs.YtlbdehegknehiaaGreat

/- A part of the proof. -/
namespace Go.Proofs.YtlbdehegknehiaaGreat
set_option maxRecDepth 100000
set_option maxHeartbeats 4000000
open Go.RowKit
set_option linter.unusedVariables false
set_option linter.unusedSimpArgs false
theorem ld_rec (a : Addr) : loadVar 109 a = aggLd 109 a := rfl
theorem st_rec (a : Addr) (v : Value) : storeVar 109 a v = aggSt 109 a v := rfl
theorem bld_rec (p : Array (Nat × Value)) : Instr.build 109 p = aggBuild 109 p := rfl
theorem ldr_rec (b o : Nat) (w : World) : (aggLd 109 ⟨b, o, none⟩).run Tryz.prog w = match row? w b o 19 with | some cs => .ok (.agg cs.toArray) w | none => aggLdSlow 109 b o w :=
  ld_run Tryz.underlying109 rfl (by kernel_rfl) b o w
theorem str_rec (b : Nat) (cs : Array Value) (w : World) : (aggSt 109 ⟨b, 0, none⟩ (.agg cs)).run Tryz.prog w = match free? w b 0 19 && fok cs 19 with | true => .ok () (aggW w b cs.toList) | false => aggStSlow 109 b 0 (.agg cs) w :=
  st_run (by kernel_rfl) b cs w
def RcU (w : World) (b o : Nat) (r : RC) (u : Value) : Prop := adOk r.g ∧ b < w.heap.size ∧ row? w b o 19 = some (rcC r u) ∧ Ads w u r.src
theorem RcAt.u {w : World} {b o : Nat} {r : RC} (h : RcAt w b o r) : ∃ u, RcU w b o r u := by
  obtain ⟨h1, h2, u, h3, h4⟩ := h
  exact ⟨u, h1, h2, h3, h4⟩
theorem RcU.at {w : World} {b o : Nat} {r : RC} {u : Value} (h : RcU w b o r u) : RcAt w b o r := ⟨h.1, h.2.1, u, h.2.2.1, h.2.2.2⟩
theorem RcU.below {w w' : World} {b o : Nat} {r : RC} {u : Value} (h : RcU w b o r u) (hb : Below w.heap.size w w') : RcU w' b o r u := by
  obtain ⟨h1, h2, h3, h4⟩ := h
  exact ⟨h1, Nat.lt_of_lt_of_le h2 hb.size, row?_below h3 h2 hb, h4.below hb⟩
def RcC (w : World) (b o : Nat) (r : RC) (u : Value) : Prop := w.cell? ⟨b, o, none⟩ = some (.int .i64 r.kind) ∧ row? w b (o + 1) 17 = some (adC r.g) ∧ w.cell? ⟨b, o + 18, none⟩ = some u
theorem RcU.cells {w : World} {b o : Nat} {r : RC} {u : Value} (h : RcU w b o r u) : RcC w b o r u := by
  obtain ⟨h1, h2, h3, h4⟩ := h
  obtain ⟨h5, h6⟩ := rangeAt_of_row? h3
  have hl := adC_length h1
  refine ⟨h5 0 _ rfl, ?_, ?_⟩
  · have hr : w.rangeAt b (o + 1) (adC r.g) := fun j v hv => by
      have hj := (List.getElem?_eq_some_iff.1 hv).1
      have := h5 (1 + j) v (by
        unfold rcC
        rw [Nat.add_comm 1 j, List.getElem?_cons_succ, List.getElem?_append_left hj]
        exact hv)
      rw [← Nat.add_assoc] at this
      exact this
    have := row?_of hr
    rw [hl] at this
    exact this
  · exact h5 18 u (by
      unfold rcC
      rw [show (18 : Nat) = 17 + 1 from rfl, List.getElem?_cons_succ, List.getElem?_append_right (by omega), hl]
      rfl)
theorem Ads.one {w : World} {v : Value} {l : List AD} (h : Ads w v l) : v.oneCell' = true := by
  obtain ⟨p, cap, h1, _⟩ := h; rw [h1]; rfl
theorem rcC_one {r : RC} {u : Value} (hu : u.oneCell' = true) : ∀ v ∈ rcC r u, v.oneCell' = true := by
  intro v hv
  unfold rcC at hv
  simp only [List.mem_cons, List.mem_append, List.not_mem_nil, or_false] at hv
  rcases hv with rfl | hv | rfl
  · rfl
  · exact addrC_one _ _ v hv
  · exact hu
theorem fok_rec {r : RC} {u : Value} (h : adOk r.g) (hu : u.oneCell' = true) : fok (rcC r u).toArray 19 = true := by
  have h1 : (rcC r u).toArray.all (·.oneCell') = true := all_oneCell_toArray (rcC_one hu)
  simp only [fok, h1, Bool.and_true]
  simp [rcC_length h]
theorem RcU.boxed {w : World} {r : RC} {u : Value} {cs : Array Value} (ho : adOk r.g) (ha : Ads w u r.src) (hc : 19 = cs.size) : RcU (aggW (w.alloc (.cells cs 109)) w.heap.size (rcC r u)) w.heap.size 0 r u ∧ Below w.heap.size w (aggW (w.alloc (.cells cs 109)) w.heap.size (rcC r u)) := by
  have hf := free_made w cs 109 19 (by omega)
  have hb : Below w.heap.size w (aggW (w.alloc (.cells cs 109)) w.heap.size (rcC r u)) := aggW_below ((Below.refl _ _).alloc (Nat.le_refl _) _) (Nat.le_refl _) _
  have hob := ObjAt.made w cs 109
  have h2 := aggW_obj (L := cs.toList) (cs := rcC r u) (by simpa using hob) (by rw [rcC_length ho]; simp; omega) (rcC_one ha.one)
  exact ⟨⟨ho, h2.lt, aggW_row hf (rcC_length ho u), ha.below hb⟩, hb⟩
theorem rcs_take_succ {l : List RC} {k : Nat} (h : k < l.length) (f : RC → Bool) : (l.take (k + 1)).all f = ((l.take k).all f && f l[k]) := by
  rw [List.take_succ_eq_append_getElem h, List.all_append]; simp
theorem sizeR_succ {l : List RC} {k : Nat} (h : k < l.length) : sizeR (l.take (k + 1)) = sizeR (l.take k) + 8 + 4 * l[k].src.length := by
  unfold sizeR
  rw [List.take_succ_eq_append_getElem h, List.map_append, List.sum_append]
  simp; omega
theorem srcs8_len {l : List AD} (h : srcs8 l = true) : l.length < 65 := by
  unfold srcs8 at h
  rw [Bool.and_eq_true, decide_eq_true_eq] at h
  exact h.2
theorem sizeR_le {l : List RC} (h : l.all recOk = true) : sizeR l ≤ 8 + 264 * l.length := by
  induction l with
  | nil => simp [sizeR]
  | cons r q ih =>
    rw [List.all_cons, Bool.and_eq_true] at h
    have h1 := ih h.2
    have h2 := h.1
    unfold recOk at h2
    rw [Bool.and_eq_true] at h2
    have h3 := srcs8_len h2.2
    unfold sizeR at h1 ⊢
    simp at h1 ⊢
    omega
attribute [local go_sem ↓] ld_addr st_addr bld_addr ld_rec st_rec
attribute [local go_sem] ldr_addr str_addr ldr_rec str_rec
theorem rgood8_32 (t : TK) (us ur : Value) (w : World) (ho : t.ok) (hs : Ads w us t.src) (hr : Rcs w ur t.rcs) (hv6 : t.v6 = false) (hve : t.ver = 3) (hki : t.kind = 2) (hL : t.rcs.length ≤ 1000) (R : Bool) (hR : R = good8 t) :
    Calls Tryz.prog 62 #[.agg (tkC t us ur).toArray] w fun x w' => x = .returned (.bool R) ∧ Below w.heap.size w w' := by
  have H0 := zh (GD.made w t us ur ho.1)
  have HGD : Hid (∀ W, GD w W t us ur → GC w W t us ur) := zh fun W h => h.cells
  have HG := zh (fun W => rgroup8_any t.g ho.1 W)
  have HX1 := zh (fun W => rexact8 t.resp W)
  have HX2 := zh (fun W => rexact8 t.every W)
  have HS := zh (fun W (h : Below w.heap.size w W) => rsources8_any us t.src W (hs.below h))
  have q := fun w0 => eq_ad t.g zeroA ho.1 zeroA_ok w0
  have hbz := bld_zeroA
  have hfz : fok (adC zeroA).toArray 17 = true := fok_addr false _ zeroA_ok
  have hfm := free_made (w.alloc (.cells (tkC t us ur).toArray 28)) zz17 24 17 (by simp)
  rw [show (w.alloc (.cells (tkC t us ur).toArray 28)).heap.size = w.heap.size + 1 by simp] at hfm
  obtain ⟨pu, cu, e1, hu1, hu2⟩ := hs.len
  obtain ⟨pr, cr, e2, hr1, hr2⟩ := hr.len
  have hm1 : t.src.length ≤ maxLen := by omega
  have hm2 : t.rcs.length ≤ maxLen := by omega
  unfold maxLen at hm1 hm2
  have HRCS := zh hr
  clear hs hr hu1 hu2 hr1 hr2 ho
  obtain ⟨v6, ver, kind, resp, g, quiet, rob, every, src, rcs⟩ := t
  simp only at *
  subst e1 e2 hv6 hve hki
  have H0 := zh H0.out
  go_enter Tryz.func62, Tryz.ntmps62
  go_upto_region 2 with (fail)
  generalize aggW ((w.alloc (.cells (tkC _ _ _).toArray 28)).alloc (.cells zz17 24)) (w.heap.size + 1) _ = W at H0 ⊢
  obtain ⟨c0, c1, c2, c3, c4, c5, c6, c7, c8, c9, c10⟩ := HGD.out _ H0.out
  clear hfm hbz hfz
  cases quiet with
  | true =>
    have HR := zh (show R = false by rw [hR]; simp [good8, hR])
    clear hR
    go_wp2
    go_ret
    exact ⟨ret_bool8 (by rw [HR.out]), H0.out.2.2⟩
  | false =>
    by_cases zrob : rob = 0
    · have trob : (rob != 0) = false := by simp [zrob]
      by_cases zevery : every = 0
      · have tevery : (every != 0) = false := by simp [zevery]
        by_cases lsrc : src.length = 0
        · have tsrc : decide ((0 : Int) < (src.length : Int)) = false := by simp [lsrc]
          have vsrc : decide (0 < src.length) = false := by simp [lsrc]
          by_cases zresp : resp = 0
          · have tresp : (resp != 0) = false := by simp [zresp]
            have HRV : Hid (R = (rcs.all recOk && (decide (g = zeroA) && (decide (rcs.length < 65) && decide (sizeR rcs < 1401))))) := zh (by rw [hR]; simp [good8, zrob, zevery, lsrc, zresp])
            clear hR HX1 HX2 HG HS
            have HL := zh hL
            obtain ⟨n, hn⟩ : ∃ n, n = rcs.length := ⟨_, rfl⟩
            have hn1 : n ≤ 1000 := by omega
            have HN := zh hn
            rw [← hn] at c9
            clear hL hn hm2
            have HRC : Hid (∀ (W1 : World) (bb : Nat) (x : RC) (u : Value), RcU W1 bb 0 x u → RcC W1 bb 0 x u) := zh fun W1 bb x u h => h.cells
            by_cases ln : n = 0
            · have tn : decide ((0 : Int) < (n : Int)) = false := decide_eq_false (by omega)
              go_wp2_with fail
              go_loopw [5, 6] (fun nn i wr => ∃ k : Nat, k ≤ n ∧ i = .int .i64 k ∧ nn = .int .i64 ((sizeR (rcs.take k) : Nat) : Int) ∧ Hid ((rcs.take k).all recOk = true) ∧ Hid (GD w wr ⟨false, 3, 2, resp, g, false, rob, every, src, rcs⟩ (.slice pu src.length cu) (.slice pr rcs.length cr))) (fun _ i _ => n - (intOf i).toNat)
              case atStart => exact ⟨0, by omega, rfl, rfl, zh (by simp), H0⟩
              case round =>
                obtain ⟨k, hk, rfl, rfl, HA, HB⟩ := hrel
                by_cases hlt : k < n
                · exact absurd hlt (by omega)
                · have hd : ¬ (k : Int) < (n : Int) := by omega
                  have HA2 : Hid (rcs.all recOk = true) := zh (by
                    have e := HA.out
                    rw [List.take_of_length_le (by rw [← HN.out]; omega)] at e
                    exact e)
                  have HZ : Hid (sizeR (rcs.take k) = sizeR rcs) := zh (by rw [List.take_of_length_le (by rw [← HN.out]; omega)])
                  have HB0 := zh HB.out
                  clear hlt
                  obtain ⟨c0, c1, c2, c3, c4, c5, c6, c7, c8, c9, c10⟩ := HGD.out _ HB.out
                  rw [← HN.out] at c9
                  by_cases zg : g = zeroA
                  · rw [decide_eq_true zg] at q
                    subst zg
                    by_cases l65 : n < 65
                    · have tl : decide ((n : Int) < 65) = true := decide_eq_true (by omega)
                      have HV : Hid (R = decide ((sizeR (rcs.take k) : Int) < 1401)) := zh (by
                        rw [HRV.out, HA2.out, HZ.out, ← HN.out]
                        simp only [Bool.true_and, decide_true, l65]
                        rw [Bool.eq_iff_iff]; simp; omega)
                      clear l65
                      generalize sizeR (rcs.take k) = z at *
                      by_cases hz : (z : Int) < 1401
                      · have tz : decide ((z : Int) < 1401) = true := decide_eq_true hz
                        rw [tz] at HV
                        go_wp2
                        go_ret
                        exact ⟨ret_bool8 (by rw [HV.out]; try (first | exact tz | exact tz.symm)), HB0.out.2.2⟩
                      · have tz : decide ((z : Int) < 1401) = false := decide_eq_false hz
                        rw [tz] at HV
                        go_wp2
                        go_ret
                        exact ⟨ret_bool8 (by rw [HV.out]; try (first | exact tz | exact tz.symm)), HB0.out.2.2⟩
                    · exact absurd (show n < 65 by omega) l65
                  · rw [decide_eq_false zg] at q
                    have HV : Hid (R = false) := zh (by
                        rw [HRV.out, decide_eq_false zg]; simp)
                    clear zg
                    generalize sizeR (rcs.take k) = z at *
                    go_wp2
                    go_ret
                    exact ⟨ret_bool8 (by rw [HV.out]), HB0.out.2.2⟩
            · have tn : decide ((0 : Int) < (n : Int)) = true := decide_eq_true (by omega)
              obtain ⟨rb, ro, cr', er, _, _, Ra⟩ := HRCS.out.parts (fun h => ln (by rw [HN.out, h]; rfl))
              simp only [Value.slice.injEq] at er
              obtain ⟨rfl, -, hcc⟩ := er
              subst hcc
              have RA := zh Ra
              clear Ra
              go_wp2_with fail
              go_loopw [5, 6] (fun nn i wr => ∃ k : Nat, k ≤ n ∧ i = .int .i64 k ∧ nn = .int .i64 ((sizeR (rcs.take k) : Nat) : Int) ∧ Hid ((rcs.take k).all recOk = true) ∧ Hid (GD w wr ⟨false, 3, 2, resp, g, false, rob, every, src, rcs⟩ (.slice pu src.length cu) (.slice (some ⟨rb, ro, none⟩) rcs.length cr))) (fun _ i _ => n - (intOf i).toNat)
              case atStart => exact ⟨0, by omega, rfl, rfl, zh (by simp), H0⟩
              case round =>
                obtain ⟨k, hk, rfl, rfl, HA, HB⟩ := hrel
                by_cases hlt : k < n
                · have g1 : k < rcs.length := by rw [← HN.out]; exact hlt
                  obtain ⟨u, hu⟩ := (RA.out k g1).u
                  have hu2 := hu.below HB.out.2.2
                  have r1 := hu2.2.2.1
                  obtain ⟨ho, hlt2, _, ha⟩ := hu2
                  clear hu
                  obtain ⟨pp, cc, eu, hlu, hlm⟩ := ha.len
                  subst eu
                  have HBX := zh (RcU.boxed (cs := zz19) ho ha rfl)
                  have hfok := fok_rec ho ha.one
                  have hfm := free_made wr zz19 109 19 (by simp)
                  have HGr := zh (fun W => rgroup8_any rcs[k].g ho W)
                  have HSr := zh (fun W (h : RcU W wr.heap.size 0 rcs[k] (.slice pp rcs[k].src.length cc)) => rsources8_any (.slice pp rcs[k].src.length cc) rcs[k].src W h.2.2.2)
                  have HS1 := zh (rcs_take_succ g1 recOk)
                  have HS2 := zh (sizeR_succ g1)
                  have HLE := zh (sizeR_le HA.out)
                  have HF : Hid (recOk rcs[k] = false → rcs.all recOk = false) := zh fun h => by
                    rw [← Bool.not_eq_true, List.all_eq_true]
                    intro hx
                    have := hx _ (List.getElem_mem g1)
                    rw [h] at this
                    exact absurd this (by simp)
                  have HOK : Hid (recOk rcs[k] = (decide (1 ≤ rcs[k].kind ∧ rcs[k].kind ≤ 6) && grp8 rcs[k].g && srcs8 rcs[k].src)) := zh rfl
                  have hd : decide ((k : Int) < (n : Int)) = true := decide_eq_true (by omega)
                  have hk1 : (k : Int) < (n : Int) := by omega
                  have hw1 : IntKind.i64.wrap ((k : Int) + 1) = (k : Int) + 1 := by simp only [IntKind.wrap_i64]; omega
                  obtain ⟨c0, c1, c2, c3, c4, c5, c6, c7, c8, c9, c10⟩ := HGD.out _ HB.out
                  rw [← HN.out] at c9
                  clear c0 c1 c2 c3 c4 c5 c6 c7 c8 c10 ho ha hlt2
                  generalize rcs[k] = x at *
                  obtain ⟨xk, xg, xs⟩ := x
                  simp only at *
                  go_upto_region 19 with (fail)
                  generalize aggW (wr.alloc _) wr.heap.size _ = W1 at HBX ⊢
                  have H1 := zh (show GD w W1 ⟨false, 3, 2, resp, g, false, rob, every, src, rcs⟩ (.slice pu src.length cu) (.slice (some ⟨rb, ro, none⟩) rcs.length cr) ∧ RcU W1 wr.heap.size 0 ⟨xk, xg, xs⟩ (.slice pp xs.length cc) from ⟨HB.out.below HBX.out.2, HBX.out.1⟩)
                  have HQ : Hid (∀ (W1 W2 : World), (GD w W1 ⟨false, 3, 2, resp, g, false, rob, every, src, rcs⟩ (.slice pu src.length cu) (.slice (some ⟨rb, ro, none⟩) rcs.length cr) ∧ RcU W1 wr.heap.size 0 ⟨xk, xg, xs⟩ (.slice pp xs.length cc)) → Below W1.heap.size W1 W2 → (GD w W2 ⟨false, 3, 2, resp, g, false, rob, every, src, rcs⟩ (.slice pu src.length cu) (.slice (some ⟨rb, ro, none⟩) rcs.length cr) ∧ RcU W2 wr.heap.size 0 ⟨xk, xg, xs⟩ (.slice pp xs.length cc))) := zh fun W1 W2 h hb => ⟨h.1.below hb, h.2.below hb⟩
                  obtain ⟨d0, d1, d2⟩ := HRC.out _ _ _ _ H1.out.2
                  simp only at d0 d1 d2
                  clear HBX hfm hfok r1 c9 HB q
                  by_cases k1 : xk < 1
                  · have t1 : decide (xk < 1) = true := decide_eq_true k1
                    have HV : Hid (R = false) := zh (by rw [HRV.out, HF.out (by rw [HOK.out, decide_eq_false (show ¬ (1 ≤ xk ∧ xk ≤ 6) by omega)]; rfl)]; rfl)
                    clear HF HOK HS1 k1
                    go_wp2
                    go_ret
                    exact ⟨ret_bool8 (by rw [HV.out]), H1.out.1.2.2⟩
                  have t1 : decide (xk < 1) = false := decide_eq_false k1
                  by_cases k6 : 6 < xk
                  · have t6 : decide (6 < xk) = true := decide_eq_true k6
                    have HV : Hid (R = false) := zh (by rw [HRV.out, HF.out (by rw [HOK.out, decide_eq_false (show ¬ (1 ≤ xk ∧ xk ≤ 6) by omega)]; rfl)]; rfl)
                    clear HF HOK HS1
                    go_wp2
                    go_ret
                    exact ⟨ret_bool8 (by rw [HV.out]), H1.out.1.2.2⟩
                  have t6 : decide (6 < xk) = false := decide_eq_false k6
                  rw [decide_eq_true (show 1 ≤ xk ∧ xk ≤ 6 by omega), Bool.true_and] at HOK
                  cases hgx : grp8 xg with
                  | false =>
                    rw [hgx] at HGr HOK
                    have HV : Hid (R = false) := zh (by rw [HRV.out, HF.out (by rw [HOK.out]; rfl)]; rfl)
                    clear HF HOK HS1 hgx
                    go_wp2_with (go_at_call 115; (with_reducible refine (HGr.out _).mono ?_); rintro x w1 ⟨rfl, hb1⟩; have G1 := zh (HQ.out _ _ H1.out hb1); clear hb1 d0 d1 d2; obtain ⟨d0, d1, d2⟩ := HRC.out _ _ _ _ G1.out.2; simp only at d0 d1 d2)
                    go_ret
                    exact ⟨ret_bool8 (by rw [HV.out]), G1.out.1.2.2⟩
                  | true =>
                    rw [hgx] at HGr HOK
                    cases hsx : srcs8 xs with
                    | false =>
                      rw [hsx] at HSr HOK
                      have HV : Hid (R = false) := zh (by rw [HRV.out, HF.out (by rw [HOK.out]; rfl)]; rfl)
                      clear HF HOK HS1 hgx hsx
                      go_wp2_with (first | (go_at_call 115; (with_reducible refine (HGr.out _).mono ?_); rintro x w1 ⟨rfl, hb1⟩; have G1 := zh (HQ.out _ _ H1.out hb1); clear hb1 d0 d1 d2; obtain ⟨d0, d1, d2⟩ := HRC.out _ _ _ _ G1.out.2; simp only at d0 d1 d2) | (go_at_call 135; (with_reducible refine (HSr.out _ G1.out.2).mono ?_); rintro x w2 ⟨rfl, hb2⟩; have G2 := zh (HQ.out _ _ G1.out hb2); clear hb2 d0 d1 d2; obtain ⟨d0, d1, d2⟩ := HRC.out _ _ _ _ G2.out.2; simp only at d0 d1 d2))
                      go_ret
                      exact ⟨ret_bool8 (by rw [HV.out]), G2.out.1.2.2⟩
                    | true =>
                      rw [hsx] at HSr HOK
                      have hx64 := srcs8_len hsx
                      have HA2 : Hid ((rcs.take (k + 1)).all recOk = true) := zh (by rw [HS1.out, HA.out, HOK.out]; rfl)
                      have hz : sizeR (rcs.take k) ≤ 1000000 := by have := HLE.out; rw [List.length_take] at this; omega
                      have HS3 : Hid (((sizeR (rcs.take (k + 1)) : Nat) : Int) = (sizeR (rcs.take k) : Int) + 8 + 4 * (xs.length : Int)) := zh (by rw [HS2.out]; omega)
                      clear HF HOK HS1 HS2 hgx hsx HA HLE
                      generalize sizeR (rcs.take k) = z at *
                      go_wp2_with (first | (go_at_call 115; (with_reducible refine (HGr.out _).mono ?_); rintro x w1 ⟨rfl, hb1⟩; have G1 := zh (HQ.out _ _ H1.out hb1); clear hb1 d0 d1 d2; obtain ⟨d0, d1, d2⟩ := HRC.out _ _ _ _ G1.out.2; simp only at d0 d1 d2) | (go_at_call 135; (with_reducible refine (HSr.out _ G1.out.2).mono ?_); rintro x w2 ⟨rfl, hb2⟩; have G2 := zh (HQ.out _ _ G1.out hb2); clear hb2 d0 d1 d2; obtain ⟨d0, d1, d2⟩ := HRC.out _ _ _ _ G2.out.2; simp only at d0 d1 d2))
                      go_roundw
                      case rel => exact ⟨k + 1, by omega, by go_num, by rw [HS3.out], HA2, zh G2.out.1⟩
                      case measure => simp [intOf]; omega
                · have hd : ¬ (k : Int) < (n : Int) := by omega
                  have HA2 : Hid (rcs.all recOk = true) := zh (by
                    have e := HA.out
                    rw [List.take_of_length_le (by rw [← HN.out]; omega)] at e
                    exact e)
                  have HZ : Hid (sizeR (rcs.take k) = sizeR rcs) := zh (by rw [List.take_of_length_le (by rw [← HN.out]; omega)])
                  have HB0 := zh HB.out
                  clear hlt
                  obtain ⟨c0, c1, c2, c3, c4, c5, c6, c7, c8, c9, c10⟩ := HGD.out _ HB.out
                  rw [← HN.out] at c9
                  by_cases zg : g = zeroA
                  · rw [decide_eq_true zg] at q
                    subst zg
                    by_cases l65 : n < 65
                    · have tl : decide ((n : Int) < 65) = true := decide_eq_true (by omega)
                      have HV : Hid (R = decide ((sizeR (rcs.take k) : Int) < 1401)) := zh (by
                        rw [HRV.out, HA2.out, HZ.out, ← HN.out]
                        simp only [Bool.true_and, decide_true, l65]
                        rw [Bool.eq_iff_iff]; simp; omega)
                      clear l65
                      generalize sizeR (rcs.take k) = z at *
                      by_cases hz : (z : Int) < 1401
                      · have tz : decide ((z : Int) < 1401) = true := decide_eq_true hz
                        rw [tz] at HV
                        go_wp2
                        go_ret
                        exact ⟨ret_bool8 (by rw [HV.out]; try (first | exact tz | exact tz.symm)), HB0.out.2.2⟩
                      · have tz : decide ((z : Int) < 1401) = false := decide_eq_false hz
                        rw [tz] at HV
                        go_wp2
                        go_ret
                        exact ⟨ret_bool8 (by rw [HV.out]; try (first | exact tz | exact tz.symm)), HB0.out.2.2⟩
                    · have tl : decide ((n : Int) < 65) = false := decide_eq_false (by omega)
                      have HV : Hid (R = false) := zh (by
                        rw [HRV.out, ← HN.out, decide_eq_false l65]; simp)
                      clear l65
                      generalize sizeR (rcs.take k) = z at *
                      go_wp2
                      go_ret
                      exact ⟨ret_bool8 (by rw [HV.out]), HB0.out.2.2⟩
                  · rw [decide_eq_false zg] at q
                    have HV : Hid (R = false) := zh (by
                        rw [HRV.out, decide_eq_false zg]; simp)
                    clear zg
                    generalize sizeR (rcs.take k) = z at *
                    go_wp2
                    go_ret
                    exact ⟨ret_bool8 (by rw [HV.out]), HB0.out.2.2⟩
          · have tresp : (resp != 0) = true := by simp [zresp]
            have HR := zh (show R = false by rw [hR]; simp [good8, zrob, zevery, lsrc, zresp])
            clear hR
            go_wp2
            go_ret
            exact ⟨ret_bool8 (by rw [HR.out]), H0.out.2.2⟩
        · have psrc : 0 < src.length := Nat.pos_of_ne_zero lsrc
          have tsrc : decide ((0 : Int) < (src.length : Int)) = true := by simp; omega
          have vsrc : decide (0 < src.length) = true := by simp; omega
          have HR := zh (show R = false by rw [hR]; simp [good8, zrob, zevery, psrc])
          clear hR
          go_wp2
          go_ret
          exact ⟨ret_bool8 (by rw [HR.out]), H0.out.2.2⟩
      · have tevery : (every != 0) = true := by simp [zevery]
        have HR := zh (show R = false by rw [hR]; simp [good8, zrob, zevery])
        clear hR
        go_wp2
        go_ret
        exact ⟨ret_bool8 (by rw [HR.out]), H0.out.2.2⟩
    · have trob : (rob != 0) = true := by simp [zrob]
      have HR := zh (show R = false by rw [hR]; simp [good8, zrob])
      clear hR
      go_wp2
      go_ret
      exact ⟨ret_bool8 (by rw [HR.out]), H0.out.2.2⟩
end Go.Proofs.YtlbdehegknehiaaGreat

