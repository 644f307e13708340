/-
  Texts joined: MgQ, MgR, IgA.
-/
import Derived.Test.YtlbdehegknehiaaGreatMg00
import Derived.Test.YtlbdehegknehiaaGreatMg21
import Derived.Test.YtlbdehegknehiaaGreatMg13
import Derived.Test.YtlbdehegknehiaaGreatMgA
import Derived.Test.YtlbdehegknehiaaGreatMg16
import Derived.Test.YtlbdehegknehiaaGreatIp
import Derived.Test.YtlbdehegknehiaaGreatMg03
import Derived.Test.YtlbdehegknehiaaGreatMg02
import Derived.Test.YtlbdehegknehiaaGreatMg08
import Derived.Test.YtlbdehegknehiaaGreatMg10
/- A part of the proof. -/
namespace Go.Proofs.YtlbdehegknehiaaGreat
set_option maxRecDepth 100000
set_option maxHeartbeats 1000000
open Go.RowKit
set_option linter.unusedVariables false
set_option linter.unusedSimpArgs false
attribute [local go_sem ↓] ld_addr st_addr bld_addr adsLit_eq
attribute [local go_sem] ldr_addr str_addr row?_drew_eq
abbrev rp (b0 : Nat) : Value := .pointer (some ⟨b0, 0, none⟩)
theorem own_keep9 {w w' : World} {base n size : Nat} {v : Value} {xs : List Value} {T : TypeId} (h : w.ownsRow base T size v n xs) (hk : ∀ g, v.ownBlock = some g → w'.heap[g]? = w.heap[g]?) : w'.ownsRow base T size v n xs := by
  obtain ⟨h1, h2 | ⟨g, cap, cur, e1, e2, e3, e4⟩⟩ := h
  · exact ⟨h1, .inl h2⟩
  · exact ⟨h1, .inr ⟨g, cap, cur, e1, e2, (hk g (by rw [e1]; rfl)).trans e3, e4⟩⟩
theorem row_ne9 {w : World} {base m n size : Nat} {v : Value} {xs : List Value} {L : Array Value} {T T' : TypeId} (h : w.ownsRow base T size v n xs) (hm : ObjAt w m L T') (hT : T ≠ T') : some m ≠ v.ownBlock := by
  obtain ⟨_, h2 | ⟨g, cap, cur, rfl, _, hg, _⟩⟩ := h
  · rw [h2.1]; simp [Value.ownBlock]
  · intro e
    simp only [Value.ownBlock, Option.some.injEq] at e
    subst e
    unfold ObjAt at hm
    rw [hg] at hm
    simp only [Option.some.injEq, Obj.cells.injEq] at hm
    exact hT hm.2.1
abbrev RAdr (b0 : Nat) (l : List UInt8) (k : Nat) (bad : Bool) (a : AD) (l' : List UInt8) (k' : Nat) (bad' : Bool) : Prop := ∀ W, RdAt W b0 l k bad → Calls Tryz.prog 217 #[rp b0] W fun x w' => x = .returned (.agg (adC a).toArray) ∧ RdAt w' b0 l' k' bad' ∧ W.grownBy w' (some b0)
def ad16 (t : List UInt8) : AD := (adV t, adL t)
theorem ad16_ok (t : List UInt8) : adOk (ad16 t) := adL_length t
theorem radr9_any (b : Nat) (l : List UInt8) (k : Nat) (bad : Bool) (hl : l.length ≤ 1000000) (hk : k ≤ 1000000) : RAdr b l k bad (ad16 (takeV l bad 16)) (leftV l bad 16) (pastV l bad 16 k) (badV l bad 16) := fun w h => by
  have HT := zh (TQ.start w b l k bad h)
  have HR : Hid (∀ W, RdAt W b l k bad → Calls Tryz.prog 162 #[.pointer (some ⟨b, 0, none⟩), .int .i64 16] W fun e w' => e = .returned (.string (Str (takeV l bad 16))) ∧ RdAt w' b (leftV l bad 16) (pastV l bad 16 k) (badV l bad 16) ∧ W.grownBy w' (some b)) := zh fun W hW => take_any b l k bad 16 hl hk W hW
  have HA := zh (fun W => read_took l bad W)
  have hal := adL_length (takeV l bad 16)
  rw [show adC (ad16 (takeV l bad 16)) = addrC (adV (takeV l bad 16)) (adL (takeV l bad 16)) from rfl]
  generalize adV (takeV l bad 16) = v at HA ⊢
  generalize adL (takeV l bad 16) = x at HA hal ⊢
  generalize takeV l bad 16 = t at HR HA
  generalize leftV l bad 16 = l' at HR ⊢
  generalize pastV l bad 16 k = k' at HR ⊢
  generalize badV l bad 16 = bad' at HR ⊢
  have hfok := fok_addr v x hal
  have HL := zh (show (addrC v x).length = 17 by rw [addrC_length, hal])
  clear h hal
  go_enter Tryz.func217, Tryz.ntmps217
  go_upto_region 1 with (fail)
  generalize w.alloc (.cells zz17 24) = W at HT ⊢
  have hfm : ∀ W : World, free? (W.alloc (.cells zz17 24)) W.heap.size 0 17 = true := fun W => free_made W _ _ 17 (by simp)
  go_upto_region 2 with (first
    | (go_at_call 162; refine (HR.out _ HT.out.1).mono ?_; rintro e w1 ⟨rfl, hr1, hg1⟩; have HT1 := zh (HT.out.grown hr1 hg1); clear hr1 hg1)
    | (go_at_call 215; obtain ⟨c, hc⟩ := HA.out w1; refine hc.mono ?_; rintro e w2 ⟨rfl, hb2⟩; clear hc; have HT2 := zh (HT1.out.below hb2); clear hb2))
  have hlt := HT2.out.2.1.lt
  have hm := aggW_row (cs := addrC v x) (hfm w2) HL.out
  have HT3 := zh (((HT2.out.below ((Below.refl _ _).alloc (Nat.le_refl _) (.cells zz17 24)))).put (addrC v x) w2.heap.size hlt)
  have hf3 : free? (aggW (w2.alloc (.cells zz17 24)) w2.heap.size (addrC v x)) w.heap.size 0 17 = true := obj_free HT3.out.2.1 (by simp)
  generalize aggW (w2.alloc (.cells zz17 24)) w2.heap.size (addrC v x) = W3 at HT3 hf3 hm ⊢
  go_wp2
  obtain ⟨q1, q2, q3⟩ := HT3.out.done (addrC v x) HL.out
  exact bodyPost_ret (results_cell Tryz.results217 rfl (ld_some q1 (ldr_addr _ _ _))) rfl ⟨rfl, q2, q3⟩
theorem radr_good (b0 : Nat) (s : List UInt8) (i k : Nat) (hk : k ≤ i) (hi : i + 16 ≤ s.length) (hl : s.length ≤ 1000000) : RAdr b0 (s.drop i) k false (sixL s i) (s.drop (i + 16)) (k + 16) false := fun W h => by
  have := radr9_any b0 (s.drop i) k false (by simp; omega) (by omega) W h
  obtain ⟨e1, e2, e3, e4⟩ := rd_good (l := s.drop i) (n := 16) (k := k) (by simp; omega)
  have hl4 : ((s.drop i).take 16).length = 16 := by simp; omega
  rw [show takeV (s.drop i) false 16 = (s.drop i).take 16 from e1, show leftV (s.drop i) false 16 = (s.drop i).drop 16 from e2, show pastV (s.drop i) false 16 k = k + 16 from e3, show badV (s.drop i) false 16 = false from e4, List.drop_drop] at this
  have ea : ad16 ((s.drop i).take 16) = sixL s i := by
    unfold ad16 sixL adV adL
    rw [if_pos hl4, decide_eq_true hl4]
    rw [show readV ((s.drop i).take 16) = (s.drop i).take 16 by unfold readV; rw [hl4]; simp]
  rw [ea] at this
  exact this
theorem radr_bad (b0 : Nat) (l : List UInt8) (k : Nat) (bad : Bool) (hl : l.length ≤ 1000000) (hk : k ≤ 1000000) (hP : bad = true ∨ l.length < 16) :
    ∃ a : AD, RAdr b0 l k bad a l k true ∧ adOk a := by
  refine ⟨ad16 (takeV l bad 16), fun W h => ?_, ad16_ok _⟩
  have := radr9_any b0 l k bad hl hk W h
  cases bad with
  | true =>
    obtain ⟨e1, e2, e3, e4⟩ := rd_dead (l := l) (n := 16) (k := k)
    rw [e2, e3, e4] at this
    exact this
  | false =>
    obtain ⟨e1, e2, e3, e4⟩ := rd_short (l := l) (n := 16) (k := k) (by rcases hP with h | h; cases h; exact h)
    rw [show leftV l false 16 = l from e2, show pastV l false 16 k = k from e3, show badV l false 16 = true from e4] at this
    exact this
structure SJ (w W : World) (b0 : Nat) (l : List UInt8) (k : Nat) (bad : Bool) (v : Value) (ls : List AD) : Prop where
  rd : RdAt W b0 l k bad
  own : W.ownsRow w.heap.size 24 17 v ls.length (adsC ls)
  ok : ∀ a ∈ ls, adOk a
  frm : w.grownBy W (some b0)
  l0 : b0 < w.heap.size
theorem SJ.start {w : World} {b0 : Nat} {l : List UInt8} {k : Nat} {bad : Bool} (h : RdAt w b0 l k bad) : SJ w w b0 l k bad (.slice none 0 0) [] :=
  ⟨h, ⟨rfl, Or.inl ⟨rfl, rfl⟩⟩, fun a ha => (by cases ha), ⟨rfl, rfl, rfl, Nat.le_refl _, fun _ _ _ => rfl⟩, ObjAt.lt h⟩
theorem SJ.call {w W W' : World} {b0 : Nat} {l l' : List UInt8} {k k' : Nat} {bad bad' : Bool} {v : Value} {ls : List AD} (h : SJ w W b0 l k bad v ls) (hr : RdAt W' b0 l' k' bad') (hg : W.grownBy W' (some b0)) : SJ w W' b0 l' k' bad' v ls := by
  have l0 := h.l0
  exact ⟨hr, own_keep9 h.own (fun g e => hg.block g (by
    obtain ⟨_, h2 | ⟨g', cap, cur, e1, e2, e3, _⟩⟩ := h.own
    · rw [h2.1] at e; simp [Value.ownBlock] at e
    · rw [e1] at e; simp only [Value.ownBlock, Option.some.injEq] at e; subst e; exact (Array.getElem?_eq_some_iff.1 e3).1) (by
    obtain ⟨_, h2 | ⟨g', cap, cur, e1, e2, e3, _⟩⟩ := h.own
    · rw [h2.1] at e; simp [Value.ownBlock] at e
    · rw [e1] at e; simp only [Value.ownBlock, Option.some.injEq] at e; subst e; simp; omega)), h.ok, gtrans h.frm hg, h.l0⟩
theorem SJ.below {w W W' : World} {b0 : Nat} {l : List UInt8} {k : Nat} {bad : Bool} {v : Value} {ls : List AD} (h : SJ w W b0 l k bad v ls) (hb : Below W.heap.size W W') : SJ w W' b0 l k bad v ls :=
  ⟨ObjAt.below h.rd hb (ObjAt.lt h.rd), own_below8 h.own hb, h.ok, qbelow h.frm (hb.mono h.frm.size), h.l0⟩
theorem SJ.app {w W W2 : World} {b0 : Nat} {l : List UInt8} {k : Nat} {bad : Bool} {v v' : Value} {ls : List AD} {a : AD} (h : SJ w W b0 l k bad v ls) (ho : adOk a) (hown : W2.ownsRow w.heap.size 24 17 v' (ls.length + 1) (adsC ls ++ adC a)) (hg : W.grownBy W2 v.ownBlock) : SJ w W2 b0 l k bad v' (ls ++ [a]) := by
  have l0 := h.l0
  refine ⟨ObjAt.grown h.rd hg (row_ne9 h.own h.rd (by decide)), ?_, ?_, ?_, l0⟩
  · rw [show adsC (ls ++ [a]) = adsC ls ++ adC a by simp [adsC], List.length_append]; exact hown
  · intro x hx
    rcases List.mem_append.1 hx with hx | hx
    · exact h.ok x hx
    · rw [List.mem_singleton] at hx; subst hx; exact ho
  · refine ⟨hg.os.trans h.frm.os, hg.tape.trans h.frm.tape, hg.output.trans h.frm.output, Nat.le_trans h.frm.size hg.size, fun i hi hne => ?_⟩
    refine (hg.block i (Nat.lt_of_lt_of_le hi h.frm.size) (fun e => ?_)).trans (h.frm.block i hi hne)
    obtain ⟨_, q2 | ⟨g', cap, cur, q1, q2, _⟩⟩ := h.own
    · rw [q2.1] at e; simp [Value.ownBlock] at e
    · rw [q1] at e; simp only [Value.ownBlock, Option.some.injEq] at e; omega
theorem SJ.adst {w W : World} {b0 : Nat} {l : List UInt8} {k : Nat} {bad : Bool} {v : Value} {ls : List AD} (h : SJ w W b0 l k bad v ls) : AdsT W v ls := ⟨Ads.own h.ok h.own, AdT.own h.own⟩
def SrcI (s : List UInt8) (i k j : Nat) (l : List UInt8) (k' : Nat) (bad : Bool) (ls : List AD) : Prop :=
  ls.length = j ∧ l.length ≤ s.length ∧ k' ≤ s.length ∧ (bad = false → i + 16 * j ≤ s.length ∧ l = s.drop (i + 16 * j) ∧ k' = k + 16 * j ∧ ls = srcsL9 s i j) ∧ (bad = true → s.length < i + 16 * j)
theorem srcsL9_snoc (s : List UInt8) (i n : Nat) : srcsL9 s i (n + 1) = srcsL9 s i n ++ [sixL s (i + 16 * n)] := by
  unfold srcsL9
  rw [List.range_succ]
  simp
theorem SrcI.step {s : List UInt8} {i k j : Nat} {l : List UInt8} {k' : Nat} {bad : Bool} {ls : List AD} (h : SrcI s i k j l k' bad ls) (hk : k ≤ i) (hs : s.length ≤ 100000) (b0 : Nat) :
    ∃ (a : AD) (l2 : List UInt8) (k2 : Nat) (bad2 : Bool), RAdr b0 l k' bad a l2 k2 bad2 ∧ adOk a ∧ SrcI s i k (j + 1) l2 k2 bad2 (ls ++ [a]) := by
  obtain ⟨h1, h2, h3, h4, h5⟩ := h
  cases bad with
  | true =>
    obtain ⟨a, p, ho⟩ := radr_bad b0 l k' true (by omega) (by omega) (Or.inl rfl)
    have := h5 rfl
    exact ⟨a, l, k', true, p, ho, by simp [h1], h2, h3, fun h => (by cases h), fun _ => by omega⟩
  | false =>
    obtain ⟨g1, rfl, rfl, rfl⟩ := h4 rfl
    by_cases hg : i + 16 * j + 16 ≤ s.length
    · refine ⟨_, _, _, _, radr_good b0 s (i + 16 * j) (k + 16 * j) (by omega) hg (by omega), sixL_ok _ _, by simp [h1], by simp, by omega, fun _ => ⟨by omega, by rw [show i + 16 * (j + 1) = i + 16 * j + 16 by omega], by omega, (srcsL9_snoc s i j).symm⟩, fun h => by cases h⟩
    · obtain ⟨a, p, ho⟩ := radr_bad b0 (s.drop (i + 16 * j)) (k + 16 * j) false (by simp; omega) (by omega) (Or.inr (by simp; omega))
      exact ⟨a, _, _, true, p, ho, by simp [h1], by simp, h3, fun h => (by cases h), fun _ => by omega⟩
end Go.Proofs.YtlbdehegknehiaaGreat

/- A part of the proof. -/
namespace Go.Proofs.YtlbdehegknehiaaGreat
open Go.RowKit
set_option linter.unusedVariables false
set_option linter.unusedSimpArgs false
attribute [local go_sem ↓] ld_addr st_addr bld_addr ld_rec st_rec bld_rec
attribute [local go_sem] ldr_addr str_addr str_addr_at ldr_rec str_rec row?_drew_eq
theorem AdsT.far9 {w w' : World} {v : Value} {l : List AD} {m : Nat} {L : Array Value} {T : TypeId} (h : AdsT w v l) (hm : ObjAt w m L T) (hT : T ≠ 24) (hg : w.grownBy w' (some m)) : AdsT w' v l := by
  have hf : ∀ b o n c, v = .slice (some ⟨b, o, none⟩) n c → some b ≠ some m := fun b o n c e => by
    obtain ⟨h1, cur, fz, h2⟩ := h.2 b o n c e
    intro hb
    simp only [Option.some.injEq] at hb
    subst hb
    unfold ObjAt at hm
    rw [h2] at hm
    simp only [Option.some.injEq, Obj.cells.injEq] at hm
    exact hT hm.2.1.symm
  exact ⟨h.1.grown hg hf, h.2.grown hg hf⟩
theorem rcC_grp9 (x : RC) (u : Value) (ho : adOk x.g) (a : AD) (ha : adOk a) : over (rcC x u) 1 (adC a) = rcC ⟨x.kind, a, x.src⟩ u := by
  unfold over rcC
  have l1 := adC_length ho
  have l2 := adC_length ha
  rw [l2]
  simp only [List.take_succ_cons, List.take_zero, List.drop_succ_cons]
  rw [show 1 + 16 = 17 from rfl, List.drop_append_of_le_length (by omega), List.drop_of_length_le (by omega)]
  simp
theorem rcC_srcs9 (x : RC) (u v : Value) (ls : List AD) (ho : adOk x.g) : (rcC x u).set 18 v = rcC ⟨x.kind, x.g, ls⟩ v := by
  unfold rcC
  have l1 := adC_length ho
  rw [zsS, List.set_append_right _ _ (by omega), l1]
  rfl
structure RX9 (w W : World) (b0 : Nat) (l : List UInt8) (k : Nat) (bad : Bool) (m : Nat) (x : RC) (u : Value) : Prop where
  rd : RdAt W b0 l k bad
  res : ObjAt W w.heap.size zz19 109
  rc : ObjAt W m (rcC x u).toArray 109
  lm : w.heap.size < m
  ok : adOk x.g
  frm : w.grownBy W (some b0)
  l0 : b0 < w.heap.size
theorem RX9.call {w W : World} {b0 m : Nat} {l : List UInt8} {k : Nat} {bad : Bool} {x : RC} {u : Value} {W' : World} {l' : List UInt8} {k' : Nat} {bad' : Bool} (h : RX9 w W b0 l k bad m x u) (hr : RdAt W' b0 l' k' bad') (hg : W.grownBy W' (some b0)) : RX9 w W' b0 l' k' bad' m x u :=
  ⟨hr, ObjAt.grown h.res hg (by have := h.l0; simp; omega), ObjAt.grown h.rc hg (by have := h.l0; have := h.lm; simp; omega), h.lm, h.ok, gtrans h.frm hg, h.l0⟩
theorem RX9.below {w W : World} {b0 m : Nat} {l : List UInt8} {k : Nat} {bad : Bool} {x : RC} {u : Value} {W' : World} (h : RX9 w W b0 l k bad m x u) (hb : Below W.heap.size W W') : RX9 w W' b0 l k bad m x u :=
  ⟨ObjAt.below h.rd hb (ObjAt.lt h.rd), h.res.below hb h.res.lt, h.rc.below hb h.rc.lt, h.lm, h.ok, qbelow h.frm (hb.mono h.frm.size), h.l0⟩
theorem RX9.grp {w W : World} {b0 m : Nat} {l : List UInt8} {k : Nat} {bad : Bool} {x : RC} {u : Value} (h : RX9 w W b0 l k bad m x u) (a : AD) (ha : adOk a) : RX9 w (aggO W m 1 (adC a)) b0 l k bad m ⟨x.kind, a, x.src⟩ u := by
  have lm := h.lm; have lt := h.l0
  have h1 := aggO_obj (o := 1) (cs := adC a) h.rc (by rw [rcC_length h.ok, adC_length ha]; omega) (addrC_one _ _)
  rw [rcC_grp9 x u h.ok a ha] at h1
  exact ⟨aggO_other h.rd _ (by omega), aggO_other h.res _ (by omega), h1, lm, ha, qbelow h.frm (aggO_below (Below.refl _ _) (by omega) _ _), lt⟩
theorem RX9.src {w W : World} {b0 m : Nat} {l : List UInt8} {k : Nat} {bad : Bool} {x : RC} {u : Value} (h : RX9 w W b0 l k bad m x u) (v : Value) (ls : List AD) : RX9 w (W.setCell ⟨m, 18, none⟩ v) b0 l k bad m ⟨x.kind, x.g, ls⟩ v := by
  have lm := h.lm; have lt := h.l0
  have h1 := ObjAt.set h.rc 18 v
  rw [zsA, rcC_srcs9 x u v ls h.ok] at h1
  exact ⟨ObjAt.other h.rd _ _ (by simp; omega), ObjAt.other h.res _ _ (by simp; omega), h1, lm, h.ok, qbelow h.frm ((Below.refl _ _).setCell (p := ⟨m, 18, none⟩) (by simp; omega) v), lt⟩
theorem RX9.row {w W : World} {b0 m : Nat} {l : List UInt8} {k : Nat} {bad : Bool} {x : RC} {u : Value} (h : RX9 w W b0 l k bad m x u) : row? W m 0 19 = some (rcC x u) := obj_rowk (A := []) (M := rcC x u) (C := []) (by simpa using h.rc) rfl (rcC_length h.ok u)
theorem RX9.free {w W : World} {b0 m : Nat} {l : List UInt8} {k : Nat} {bad : Bool} {x : RC} {u : Value} (h : RX9 w W b0 l k bad m x u) : free? W w.heap.size 0 19 = true := obj_free h.res (by simp)
theorem RX9.freeg {w W : World} {b0 m : Nat} {l : List UInt8} {k : Nat} {bad : Bool} {x : RC} {u : Value} (h : RX9 w W b0 l k bad m x u) : free? W m 1 17 = true := free_of fun j hj => by
  refine ⟨?_, ObjAt.free h.rc (1 + j)⟩
  rw [ObjAt.cell h.rc (1 + j), Array.getElem?_eq_getElem (by simp [rcC_length h.ok]; omega)]; rfl
theorem RX9.s18 {w W : World} {b0 m : Nat} {l : List UInt8} {k : Nat} {bad : Bool} {x : RC} {u : Value} (h : RX9 w W b0 l k bad m x u) : W.cell? ⟨m, 18, none⟩ = some u ∧ W.frozen? ⟨m, 18, none⟩ = false := by
  refine ⟨?_, ObjAt.free h.rc 18⟩
  rw [ObjAt.cell h.rc, List.getElem?_toArray]
  unfold rcC
  rw [show (18 : Nat) = 17 + 1 from rfl, List.getElem?_cons_succ, List.getElem?_append_right (by rw [adC_length h.ok]; omega), adC_length h.ok]
  rfl
theorem RX9.done {w W : World} {b0 m : Nat} {l : List UInt8} {k : Nat} {bad : Bool} {x : RC} {u : Value} (h : RX9 w W b0 l k bad m x u) :
    row? (aggW W w.heap.size (rcC x u)) w.heap.size 0 19 = some (rcC x u) ∧ RdAt (aggW W w.heap.size (rcC x u)) b0 l k bad ∧ w.grownBy (aggW W w.heap.size (rcC x u)) (some b0) :=
  ⟨aggW_row h.free (rcC_length h.ok u), aggW_other h.rd _ (by have := h.l0; omega), qbelow h.frm (aggW_below (Below.refl _ _) (by omega) _)⟩
theorem RX9.adst {w W : World} {b0 m : Nat} {l : List UInt8} {k : Nat} {bad : Bool} {x : RC} {u : Value} {v : Value} {ls : List AD} (h : RX9 w W b0 l k bad m x u) (ha : AdsT W v ls) : AdsT (aggW W w.heap.size (rcC x u)) v ls := ha.far9 h.res (by decide) (aggW_grown _ _ _)
theorem RX9.done2 {w W : World} {b0 m : Nat} {l : List UInt8} {k : Nat} {bad : Bool} {x : RC} {u : Value} (h : RX9 w W b0 l k bad m x u) : row? (aggW W w.heap.size (rcC x u)) m 0 19 = some (rcC x u) := by
  have lm := h.lm
  have h1 := aggW_other h.rc (rcC x u) (show m ≠ w.heap.size by omega)
  exact obj_rowk (A := []) (M := rcC x u) (C := []) (by simpa using h1) rfl (rcC_length h.ok u)
structure RX0 (w W : World) (b0 : Nat) (l : List UInt8) (k : Nat) (bad : Bool) : Prop where
  rd : RdAt W b0 l k bad
  res : ObjAt W w.heap.size zz19 109
  frm : w.grownBy W (some b0)
  l0 : b0 < w.heap.size
theorem RX0.start {w : World} {b0 : Nat} {l : List UInt8} {k : Nat} {bad : Bool} (h : RdAt w b0 l k bad) : RX0 w (w.alloc (.cells zz19 109)) b0 l k bad :=
  ⟨ObjAt.alloc h _, ObjAt.made w zz19 109, qof ((Below.refl _ _).alloc (Nat.le_refl _) _), ObjAt.lt h⟩
theorem RX0.call {w W W' : World} {b0 : Nat} {l l' : List UInt8} {k k' : Nat} {bad bad' : Bool} (h : RX0 w W b0 l k bad) (hr : RdAt W' b0 l' k' bad') (hg : W.grownBy W' (some b0)) : RX0 w W' b0 l' k' bad' :=
  ⟨hr, ObjAt.grown h.res hg (by have := h.l0; simp; omega), gtrans h.frm hg, h.l0⟩
theorem RX0.made {w W : World} {b0 : Nat} {l : List UInt8} {k : Nat} {bad : Bool} (h : RX0 w W b0 l k bad) (n : Int) : RX9 w (aggW (W.alloc (.cells zz19 109)) W.heap.size (rcC ⟨n, zeroA, []⟩ (.slice none 0 0))) b0 l k bad W.heap.size ⟨n, zeroA, []⟩ (.slice none 0 0) := by
  have hb := aggW_below ((Below.refl W.heap.size W).alloc (Nat.le_refl _) (.cells zz19 109)) (Nat.le_refl _) (rcC ⟨n, zeroA, []⟩ (.slice none 0 0))
  exact ⟨ObjAt.below h.rd hb (ObjAt.lt h.rd), h.res.below hb h.res.lt, aggW_obj (L := (zz19 : Array Value).toList) (by simpa using ObjAt.made W zz19 109) (by rw [rcC_length zeroA_ok]; rfl) (rcC_one rfl), h.res.lt, zeroA_ok, qbelow h.frm (hb.mono h.frm.size), h.l0⟩
def recQE9 (s : List UInt8) (i : Nat) : Int := if s.length < i + 20 then 3 else if srcsE9 s (i + 20) (wd s (i + 2)) ≠ 0 then srcsE9 s (i + 20) (wd s (i + 2)) else if s.length < recN9 s i then 3 else 0
end Go.Proofs.YtlbdehegknehiaaGreat

/- A part of the proof. -/
namespace Go.Proofs.YtlbdehegknehiaaGreat
set_option maxRecDepth 100000
set_option maxHeartbeats 4000000
open Go.RowKit
set_option linter.unusedVariables false
set_option linter.unusedSimpArgs false
attribute [local go_sem ↓] ld_addr st_addr bld_addr ld_rec st_rec
attribute [local go_sem] ldr_addr str_addr ldr_rec str_rec
theorem within8_any (n a b : Int) (w : World) : Calls Tryz.prog 116 #[.int .i64 n, .int .i64 a, .int .i64 b] w fun x w' => x = .returned (.bool (decide (a ≤ n ∧ n ≤ b))) ∧ w = w' := by
  obtain ⟨R, hR⟩ : ∃ R, R = decide (a ≤ n ∧ n ≤ b) := ⟨_, rfl⟩
  rw [← hR]
  by_cases h1 : a ≤ n
  · have t1 : decide (a ≤ n) = true := decide_eq_true h1
    by_cases h2 : n ≤ b
    · have t2 : decide (n ≤ b) = true := decide_eq_true h2
      have HV := zh (show R = true by rw [hR]; exact decide_eq_true ⟨h1, h2⟩)
      clear h1 h2 hR
      go_enter Tryz.func116, Tryz.ntmps116
      go_wp2
      go_ret
      exact ⟨ret_bool8 (by rw [HV.out]), rfl⟩
    · have t2 : decide (n ≤ b) = false := decide_eq_false h2
      have HV := zh (show R = false by rw [hR]; exact decide_eq_false (fun h => h2 h.2))
      clear h1 h2 hR
      go_enter Tryz.func116, Tryz.ntmps116
      go_wp2
      go_ret
      exact ⟨ret_bool8 (by rw [HV.out]), rfl⟩
  · have t1 : decide (a ≤ n) = false := decide_eq_false h1
    have HV := zh (show R = false by rw [hR]; exact decide_eq_false (fun h => h1 h.1))
    clear h1 hR
    go_enter Tryz.func116, Tryz.ntmps116
    go_wp2
    go_ret
    exact ⟨ret_bool8 (by rw [HV.out]), rfl⟩
theorem zero8_any (a : AD) (ho : adOk a) (w : World) : Calls Tryz.prog 121 #[.agg (adC a).toArray] w fun x w' => x = .returned (.bool (decide (a = zeroA))) ∧ Below w.heap.size w w' := by
  have H0 := zh (ABox.made w a)
  have HK : Hid (∀ W, ABox w W a → row? W w.heap.size 0 17 = some (adC a)) := zh fun W h => h.row ho
  have q := fun w0 => eq_ad a zeroA ho zeroA_ok w0
  have hbz := bld_zeroA
  generalize decide (a = zeroA) = R at *
  go_enter Tryz.func121, Tryz.ntmps121
  go_upto_region 1 with (fail)
  generalize w.alloc (.cells (adC a).toArray 24) = W at H0 ⊢
  have r1 := HK.out _ H0.out
  generalize adC a = A at *
  generalize adC zeroA = B at *
  go_wp2
  go_ret
  exact ⟨rfl, H0.out.2⟩
theorem group8_any (a : AD) (ho : adOk a) (w : World) : Calls Tryz.prog 118 #[.agg (adC a).toArray] w fun x w' => x = .returned (.bool (grp8 a)) ∧ Below w.heap.size w w' := by
  have H0 := zh (ABox.made w a)
  have HG := zh (fun W => good_any a.1 a.2 ho W)
  have HH := zh (fun W => group_any a.1 a.2 ho W)
  have HK : Hid (∀ W, ABox w W a → row? W w.heap.size 0 17 = some (adC a) ∧ W.cell? ⟨w.heap.size, 0, none⟩ = some (.bool a.1)) := zh fun W h => ⟨h.row ho, h.v⟩
  obtain ⟨R, hR⟩ : ∃ R, R = grp8 a := ⟨_, rfl⟩
  rw [← hR]
  unfold grp8 at hR
  change Hid (∀ W, Calls Tryz.prog 28 #[.agg (adC a).toArray] W _) at HG
  change Hid (∀ W, Calls Tryz.prog 29 #[.agg (adC a).toArray] W _) at HH
  generalize goodV a.1 a.2 = g at HG hR
  generalize grpV a.1 a.2 = h at HH hR
  go_enter Tryz.func118, Tryz.ntmps118
  go_upto_region 1 with (fail)
  generalize w.alloc (.cells (adC a).toArray 24) = W at H0 ⊢
  obtain ⟨r1, c1⟩ := HK.out _ H0.out
  generalize a.1 = v at c1 hR HK
  have HR := zh hR
  clear hR
  cases v with
  | true =>
    go_wp2
    go_ret
    exact ⟨ret_bool8 (by rw [HR.out]; rfl), H0.out.2⟩
  | false =>
    cases g with
    | false =>
      go_wp2_with (go_at_call 28; (with_reducible refine (HG.out _).mono ?_); rintro x w1 ⟨rfl, hb1⟩; have H1 := zh (H0.out.below hb1); clear hb1)
      go_ret
      exact ⟨ret_bool8 (by rw [HR.out]; rfl), H1.out.2⟩
    | true =>
      go_wp2_with (first
        | (go_at_call 28; (with_reducible refine (HG.out _).mono ?_); rintro x w1 ⟨rfl, hb1⟩; have H1 := zh (H0.out.below hb1); clear hb1 r1 c1; obtain ⟨r1, c1⟩ := HK.out _ H1.out)
        | (go_at_call 29; (with_reducible refine (HH.out _).mono ?_); rintro x w2 ⟨rfl, hb2⟩; have H2 := zh (H1.out.below hb2); clear hb2))
      go_ret
      exact ⟨ret_bool8 (by rw [HR.out]; rfl), H2.out.2⟩
def targ8 (a : AD) : Bool := decide (a = zeroA) || grp8 a
theorem target8_any (a : AD) (ho : adOk a) (w : World) : Calls Tryz.prog 117 #[.agg (adC a).toArray] w fun x w' => x = .returned (.bool (targ8 a)) ∧ Below w.heap.size w w' := by
  have H0 := zh (ABox.made w a)
  have HG := zh (fun W => zero8_any a ho W)
  have HH := zh (fun W => group8_any a ho W)
  have HK : Hid (∀ W, ABox w W a → row? W w.heap.size 0 17 = some (adC a)) := zh fun W h => h.row ho
  obtain ⟨R, hR⟩ : ∃ R, R = targ8 a := ⟨_, rfl⟩
  rw [← hR]
  unfold targ8 at hR
  generalize decide (a = zeroA) = g at HG hR
  generalize grp8 a = h at HH hR
  have HR := zh hR
  clear hR
  go_enter Tryz.func117, Tryz.ntmps117
  go_upto_region 1 with (fail)
  generalize w.alloc (.cells (adC a).toArray 24) = W at H0 ⊢
  have r1 := HK.out _ H0.out
  cases g with
  | true =>
    go_wp2_with (go_at_call 121; (with_reducible refine (HG.out _).mono ?_); rintro x w1 ⟨rfl, hb1⟩; have H1 := zh (H0.out.below hb1); clear hb1)
    go_ret
    exact ⟨ret_bool8 (by rw [HR.out]; rfl), H1.out.2⟩
  | false =>
    go_wp2_with (first
      | (go_at_call 121; (with_reducible refine (HG.out _).mono ?_); rintro x w1 ⟨rfl, hb1⟩; have H1 := zh (H0.out.below hb1); clear hb1 r1; have r1 := HK.out _ H1.out)
      | (go_at_call 118; (with_reducible refine (HH.out _).mono ?_); rintro x w2 ⟨rfl, hb2⟩; have H2 := zh (H1.out.below hb2); clear hb2))
    go_ret
    exact ⟨ret_bool8 (by rw [HR.out]; rfl), H2.out.2⟩
theorem srcbad8_any (a : AD) (ho : adOk a) (w : World) : Calls Tryz.prog 182 #[.agg (adC a).toArray] w fun x w' => x = .returned (.bool (!src8 a)) ∧ Below w.heap.size w w' := by
  have H0 := zh (ABox.made w a)
  have HG := zh (fun W => good_any a.1 a.2 ho W)
  have HK : Hid (∀ W, ABox w W a → row? W w.heap.size 0 17 = some (adC a) ∧ W.cell? ⟨w.heap.size, 0, none⟩ = some (.bool a.1)) := zh fun W h => ⟨h.row ho, h.v⟩
  obtain ⟨R, hR⟩ : ∃ R, R = !src8 a := ⟨_, rfl⟩
  rw [← hR]
  unfold src8 at hR
  change Hid (∀ W, Calls Tryz.prog 28 #[.agg (adC a).toArray] W _) at HG
  generalize goodV a.1 a.2 = g at HG hR
  go_enter Tryz.func182, Tryz.ntmps182
  go_upto_region 1 with (fail)
  generalize w.alloc (.cells (adC a).toArray 24) = W at H0 ⊢
  obtain ⟨r1, c1⟩ := HK.out _ H0.out
  generalize a.1 = v at c1 hR HK
  have HR := zh hR
  clear hR
  cases v with
  | true =>
    go_wp2
    go_ret
    exact ⟨ret_bool8 (by rw [HR.out]; rfl), H0.out.2⟩
  | false =>
    go_wp2_with (go_at_call 28; (with_reducible refine (HG.out _).mono ?_); rintro x w1 ⟨rfl, hb1⟩; have H1 := zh (H0.out.below hb1); clear hb1)
    go_ret
    exact ⟨ret_bool8 (by rw [HR.out]; rfl), H1.out.2⟩
theorem index8_any (v : Value) (l : List AD) (w : World) (ha : Ads w v l) : Calls Tryz.prog 212 #[v, .func (.func 182) #[] #[]] w fun x w' => ∃ i : Int, x = .returned (.int .i64 i) ∧ decide (0 ≤ i) = !(l.all src8) ∧ Below w.heap.size w w' := by
  obtain ⟨p, cap, rfl, h1, h2⟩ := ha.len
  by_cases h0 : l.length = 0
  · have e1 : l = [] := List.eq_nil_of_length_eq_zero h0
    subst e1
    go_enter Tryz.func212, Tryz.ntmps212
    go_wp2_with fail
    go_loop [8] (fun i => i = .int .i64 0) (fun _ => 0)
    case atStart => rfl
    case round =>
      subst hrel
      go_wp2
      go_ret
      exact ⟨-1, rfl, by simp, Below.refl _ _⟩
  · have na : l ≠ [] := fun h => h0 (by rw [h]; rfl)
    obtain ⟨b, o, cap', e, _, _, hbl, Ra⟩ := ha.parts na
    simp only [Value.slice.injEq] at e
    obtain ⟨rfl, _, rfl⟩ := e
    have OA := zh ha.ok
    have RA := zh Ra
    have HBL := zh hbl
    obtain ⟨n, hn⟩ : ∃ n, n = l.length := ⟨_, rfl⟩
    have hmx : n ≤ maxLen := by omega
    unfold maxLen at hmx
    rw [← hn] at h0 h1 ⊢
    have HN := zh hn
    clear Ra ha na hn hbl h1 h2
    go_enter Tryz.func212, Tryz.ntmps212
    go_wp2_with fail
    go_loopw [8] (fun i wr => ∃ k : Nat, k ≤ n ∧ i = .int .i64 k ∧ Hid ((l.take k).all src8 = true) ∧ Hid (Below w.heap.size w wr)) (fun i _ => n - (intOf i).toNat)
    case atStart => exact ⟨0, by omega, rfl, zh (by simp), zh (Below.refl _ _)⟩
    case round =>
      obtain ⟨k, hk, rfl, HT, HB⟩ := hrel
      by_cases hlt : k < n
      · have g1 : k < l.length := by rw [← HN.out]; exact hlt
        have r1 := row?_below (RA.out k g1) HBL.out HB.out
        have HG := zh (fun W => srcbad8_any l[k] (OA.out _ (List.getElem_mem g1)) W)
        have HS := zh (all_take_succ g1 src8)
        have HF : Hid (src8 l[k] = false → l.all src8 = false) := zh fun h => by
          rw [← Bool.not_eq_true, List.all_eq_true]
          intro hx
          have := hx _ (List.getElem_mem g1)
          rw [h] at this
          exact absurd this (by simp)
        have hd : decide ((k : Int) < (n : Int)) = true := by simp; omega
        have hk1 : (k : Int) < (n : Int) := by omega
        have hw1 : IntKind.i64.wrap ((k : Int) + 1) = (k : Int) + 1 := by simp only [IntKind.wrap_i64]; omega
        generalize src8 l[k] = g at *
        generalize adC l[k] = A at *
        clear g1
        cases g with
        | false =>
          have HV := zh (show (!(l.all src8)) = true by rw [HF.out rfl]; rfl)
          go_wp2_with (go_at_call 182; (with_reducible refine (HG.out _).mono ?_); rintro x w1 ⟨rfl, hb1⟩; have H1 := zh (bstep HB.out hb1); clear hb1)
          go_ret
          exact ⟨k, rfl, by rw [HV.out]; simp, H1.out⟩
        | true =>
          have HV := zh (show (l.take (k + 1)).all src8 = true by rw [HS.out, HT.out]; rfl)
          go_wp2_with (go_at_call 182; (with_reducible refine (HG.out _).mono ?_); rintro x w1 ⟨rfl, hb1⟩; have H1 := zh (bstep HB.out hb1); clear hb1)
          go_roundw
          case rel => exact ⟨k + 1, by omega, by go_num, HV, H1⟩
          case measure => simp [intOf]; omega
      · have hd : ¬ (k : Int) < (n : Int) := by omega
        have HV := zh (show (!(l.all src8)) = false by
          have e := HT.out
          rw [List.take_of_length_le (by rw [← HN.out]; omega)] at e
          rw [e]; rfl)
        go_wp2
        go_ret
        exact ⟨-1, rfl, by rw [HV.out]; rfl, HB.out⟩
theorem contains8_any (v : Value) (l : List AD) (w : World) (ha : Ads w v l) : Calls Tryz.prog 181 #[v, .func (.func 182) #[] #[]] w fun x w' => x = .returned (.bool (!(l.all src8))) ∧ Below w.heap.size w w' := by
  have HC := zh (index8_any v l w ha)
  obtain ⟨p, cap, rfl, h1, h2⟩ := ha.len
  clear ha
  generalize (!(l.all src8)) = R at *
  go_enter Tryz.func181, Tryz.ntmps181
  go_wp2_with (go_at_call 212; refine HC.out.mono ?_; rintro x w1 ⟨i, rfl, hi, hb1⟩; have HB := zh hb1; clear hb1)
  go_ret
  exact ⟨ret_bool8 (by rw [← hi]), HB.out⟩
theorem sources8_any (v : Value) (l : List AD) (w : World) (ha : Ads w v l) : Calls Tryz.prog 120 #[v] w fun x w' => x = .returned (.bool (srcs8 l)) ∧ Below w.heap.size w w' := by
  have HC := zh (contains8_any v l w ha)
  obtain ⟨p, cap, rfl, h1, h2⟩ := ha.len
  have hmx : l.length ≤ maxLen := by omega
  unfold maxLen at hmx
  obtain ⟨R, hR⟩ : ∃ R, R = srcs8 l := ⟨_, rfl⟩
  rw [← hR]
  unfold srcs8 at hR
  generalize l.all src8 = g at *
  clear ha h1 h2
  obtain ⟨n, hn⟩ : ∃ n, n = l.length := ⟨_, rfl⟩
  rw [← hn] at hR HC hmx ⊢
  clear hn
  by_cases hl : n ≤ 64
  · have t1 : decide ((n : Int) ≤ 64) = true := decide_eq_true (by omega)
    have HV := zh (show R = g by rw [hR, decide_eq_true (show n < 65 by omega), Bool.and_true])
    clear hR hl
    go_enter Tryz.func120, Tryz.ntmps120
    go_wp2_with (go_at_call 181; refine HC.out.mono ?_; rintro x w1 ⟨rfl, hb1⟩; have HB := zh hb1; clear hb1)
    go_ret
    exact ⟨ret_bool8 (by rw [HV.out]), HB.out⟩
  · have t1 : decide ((n : Int) ≤ 64) = false := decide_eq_false (by omega)
    have HV := zh (show R = false by rw [hR, decide_eq_false (show ¬ n < 65 by omega), Bool.and_false])
    clear hR hl
    go_enter Tryz.func120, Tryz.ntmps120
    go_wp2
    go_ret
    exact ⟨ret_bool8 (by rw [HV.out]), Below.refl _ _⟩
def RB8 (w W : World) (r : RC) (u : Value) : Prop := RcU W w.heap.size 0 r u ∧ Below w.heap.size w W
theorem RB8.below {w W W' : World} {r : RC} {u : Value} (h : RB8 w W r u) (hb : Below W.heap.size W W') : RB8 w W' r u := ⟨h.1.below hb, bstep h.2 hb⟩
theorem RB8.made (w : World) (r : RC) (u : Value) (ho : adOk r.g) (ha : Ads w u r.src) : RB8 w (w.alloc (.cells (rcC r u).toArray 109)) r u := by
  have hb : Below w.heap.size w (w.alloc (.cells (rcC r u).toArray 109)) := (Below.refl _ _).alloc (Nat.le_refl _) _
  refine ⟨⟨ho, by simp, ?_, ha.below hb⟩, hb⟩
  exact obj_rowk (A := []) (M := rcC r u) (C := []) (by simpa using ObjAt.made w (rcC r u).toArray 109) rfl (rcC_length ho u)
theorem record8_any (r : RC) (u : Value) (w : World) (ho : adOk r.g) (ha : Ads w u r.src) : Calls Tryz.prog 183 #[.agg (rcC r u).toArray] w fun x w' => x = .returned (.bool (rcOk r)) ∧ Below w.heap.size w w' := by
  have H0 := zh (RB8.made w r u ho ha)
  have HK : Hid (∀ W, RB8 w W r u → RcC W w.heap.size 0 r u) := zh fun W h => h.1.cells
  have HW := zh (fun W => within8_any r.kind 1 6 W)
  have HG := zh (fun W => group8_any r.g ho W)
  obtain ⟨R, hR⟩ : ∃ R, R = rcOk r := ⟨_, rfl⟩
  rw [← hR]
  unfold rcOk at hR
  generalize decide (1 ≤ r.kind ∧ r.kind ≤ 6) = b at HW hR
  generalize grp8 r.g = g at HG hR
  have HR := zh hR
  clear hR ha ho
  go_enter Tryz.func183, Tryz.ntmps183
  go_upto_region 1 with (fail)
  generalize w.alloc (.cells (rcC r u).toArray 109) = W at H0 ⊢
  obtain ⟨d0, d1, d2⟩ := HK.out _ H0.out
  cases b with
  | false =>
    go_wp2_with (go_at_call 116; (with_reducible refine (HW.out _).mono ?_); rintro x w1 ⟨rfl, rfl⟩)
    go_ret
    exact ⟨ret_bool8 (by rw [HR.out]; rfl), H0.out.2⟩
  | true =>
    go_wp2_with (first
      | (go_at_call 116; (with_reducible refine (HW.out _).mono ?_); rintro x w1 ⟨rfl, rfl⟩)
      | (go_at_call 118; (with_reducible refine (HG.out _).mono ?_); rintro x w2 ⟨rfl, hb2⟩; have H2 := zh (H0.out.below hb2); clear hb2))
    go_ret
    exact ⟨ret_bool8 (by rw [HR.out]; rfl), H2.out.2⟩
def recs8 (l : List RC) : Bool := decide (l.length < 65) && (l.all recOk && decide (sizeR l < 1401))
theorem records8_any (v : Value) (l : List RC) (w : World) (hr : Rcs w v l) : Calls Tryz.prog 122 #[v] w fun x w' => x = .returned (.bool (recs8 l)) ∧ Below w.heap.size w w' := by
  obtain ⟨p, cap, rfl, h1, h2⟩ := hr.len
  obtain ⟨R, hR⟩ : ∃ R, R = recs8 l := ⟨_, rfl⟩
  rw [← hR]
  unfold recs8 at hR
  obtain ⟨n, hn⟩ : ∃ n, n = l.length := ⟨_, rfl⟩
  have hmx : n ≤ maxLen := by omega
  unfold maxLen at hmx
  rw [← hn] at hR ⊢
  by_cases hl : n ≤ 64
  · have t64 : decide (64 < (n : Int)) = false := decide_eq_false (by omega)
    have HRV := zh (show R = (l.all recOk && decide (sizeR l < 1401)) by rw [hR, decide_eq_true (show n < 65 by omega), Bool.true_and])
    clear hR
    have HN := zh hn
    by_cases h0 : n = 0
    · have e1 : l = [] := List.eq_nil_of_length_eq_zero (by omega)
      subst e1 h0
      clear hmx h1 h2 hr HN hn hl
      go_enter Tryz.func122, Tryz.ntmps122
      go_wp2_with fail
      go_loop [3, 11] (fun z i => z = .int .i64 8 ∧ i = .int .i64 0) (fun _ _ => 0)
      case atStart => exact ⟨rfl, rfl⟩
      case round =>
        obtain ⟨rfl, rfl⟩ := hrel
        go_wp2
        go_ret
        exact ⟨ret_bool8 (by rw [HRV.out]; rfl), Below.refl _ _⟩
    · obtain ⟨rb, ro, cr', er, _, _, Ra⟩ := hr.parts (fun h => h0 (by rw [hn, h]; rfl))
      simp only [Value.slice.injEq] at er
      obtain ⟨rfl, -, hcc⟩ := er
      subst hcc
      have RA := zh Ra
      have HRC : Hid (∀ (W1 : World) (bb : Nat) (x : RC) (u : Value), RcU W1 bb 0 x u → row? W1 bb 0 19 = some (rcC x u) ∧ RcC W1 bb 0 x u) := zh fun W1 bb x u h => ⟨h.2.2.1, h.cells⟩
      clear Ra hr hn h1 h2
      go_enter Tryz.func122, Tryz.ntmps122
      go_wp2_with fail
      go_loopw [3, 11] (fun z i wr => ∃ k : Nat, k ≤ n ∧ i = .int .i64 k ∧ z = .int .i64 ((sizeR (l.take k) : Nat) : Int) ∧ Hid ((l.take k).all recOk = true) ∧ Hid (Below w.heap.size w wr)) (fun _ i _ => n - (intOf i).toNat)
      case atStart => exact ⟨0, by omega, rfl, rfl, zh (by simp), zh (Below.refl _ _)⟩
      case round =>
        obtain ⟨k, hk, rfl, rfl, HA, HB⟩ := hrel
        have HLE := zh (sizeR_le HA.out)
        by_cases hlt : k < n
        · have g1 : k < l.length := by rw [← HN.out]; exact hlt
          obtain ⟨u, hu⟩ := (RA.out k g1).u
          have hu2 := hu.below HB.out
          have r1 := hu2.2.2.1
          obtain ⟨ho, hlt2, _, ha⟩ := hu2
          clear hu
          obtain ⟨pp, cc, eu, hlu, hlm⟩ := ha.len
          subst eu
          have hmy : l[k].src.length ≤ maxLen := by omega
          unfold maxLen at hmy
          have HBX := zh (RcU.boxed (cs := zz19) ho ha rfl)
          have hfok := fok_rec ho ha.one
          have hfm := free_made wr zz19 109 19 (by simp)
          have HGr := zh (fun W (h : RcU W wr.heap.size 0 l[k] (.slice pp l[k].src.length cc)) => record8_any l[k] (.slice pp l[k].src.length cc) W h.1 h.2.2.2)
          have HSr := zh (fun W (h : RcU W wr.heap.size 0 l[k] (.slice pp l[k].src.length cc)) => sources8_any (.slice pp l[k].src.length cc) l[k].src W h.2.2.2)
          have HS1 := zh (rcs_take_succ g1 recOk)
          have HS2 := zh (sizeR_succ g1)
          have HF : Hid (recOk l[k] = false → l.all recOk = false) := zh fun h => by
            rw [← Bool.not_eq_true, List.all_eq_true]
            intro hx
            have := hx _ (List.getElem_mem g1)
            rw [h] at this
            exact absurd this (by simp)
          have HOK : Hid (recOk l[k] = (rcOk l[k] && srcs8 l[k].src)) := zh rfl
          have hd : decide ((k : Int) < (n : Int)) = true := decide_eq_true (by omega)
          have hk1 : (k : Int) < (n : Int) := by omega
          have hw1 : IntKind.i64.wrap ((k : Int) + 1) = (k : Int) + 1 := by simp only [IntKind.wrap_i64]; omega
          have hz : sizeR (l.take k) ≤ 17000 := by have := HLE.out; rw [List.length_take] at this; omega
          clear ha hlt2 HLE hlu hlm
          generalize l[k] = x at *
          generalize hzz : sizeR (l.take k) = z at *
          clear hzz
          have HS3 : Hid (((sizeR (l.take (k + 1)) : Nat) : Int) = (z : Int) + (8 + 4 * (x.src.length : Int))) := zh (by rw [HS2.out]; omega)
          have HS64 : Hid (srcs8 x.src = true → x.src.length < 65) := zh srcs8_len
          clear HS2 hmy
          obtain ⟨xk, xg, xs⟩ := x
          simp only at *
          generalize xs.length = m at *
          have HW : Hid (srcs8 xs = true → IntKind.i64.wrap (4 * (m : Int)) = 4 * (m : Int) ∧ IntKind.i64.wrap (8 + 4 * (m : Int)) = 8 + 4 * (m : Int) ∧ IntKind.i64.wrap ((z : Int) + (8 + 4 * (m : Int))) = (z : Int) + (8 + 4 * (m : Int))) := zh (fun h => by
            have := HS64.out h
            simp only [IntKind.wrap_i64]; omega)
          clear HS64
          go_upto_region 7 with (fail)
          generalize aggW (wr.alloc _) wr.heap.size _ = W1 at HBX ⊢
          have H1 := zh (show Below w.heap.size w W1 ∧ RcU W1 wr.heap.size 0 ⟨xk, xg, xs⟩ (.slice pp m cc) from ⟨bstep HB.out HBX.out.2, HBX.out.1⟩)
          have HQ : Hid (∀ (W1 W2 : World), (Below w.heap.size w W1 ∧ RcU W1 wr.heap.size 0 ⟨xk, xg, xs⟩ (.slice pp m cc)) → Below W1.heap.size W1 W2 → (Below w.heap.size w W2 ∧ RcU W2 wr.heap.size 0 ⟨xk, xg, xs⟩ (.slice pp m cc))) := zh fun W1 W2 h hb => ⟨bstep h.1 hb, h.2.below hb⟩
          obtain ⟨dr, d0, d1, d2⟩ := HRC.out _ _ _ _ H1.out.2
          simp only at d0 d1 d2
          clear HBX hfm hfok r1 HB
          cases hgx : rcOk ⟨xk, xg, xs⟩ with
          | false =>
            rw [hgx] at HGr HOK
            have HV : Hid (R = false) := zh (by rw [HRV.out, HF.out (by rw [HOK.out]; rfl)]; rfl)
            clear HF HOK HS1 hgx
            go_wp2_with (go_at_call 183; (with_reducible refine (HGr.out _ H1.out.2).mono ?_); rintro x w1 ⟨rfl, hb1⟩; have G1 := zh (HQ.out _ _ H1.out hb1); clear hb1 dr d0 d1 d2; obtain ⟨dr, d0, d1, d2⟩ := HRC.out _ _ _ _ G1.out.2; simp only at d0 d1 d2)
            go_ret
            exact ⟨ret_bool8 (by rw [HV.out]), G1.out.1⟩
          | true =>
            rw [hgx] at HGr HOK
            cases hsx : srcs8 xs with
            | false =>
              rw [hsx] at HSr HOK
              have HV : Hid (R = false) := zh (by rw [HRV.out, HF.out (by rw [HOK.out]; rfl)]; rfl)
              clear HF HOK HS1 hgx hsx
              go_wp2_with (first | (go_at_call 183; (with_reducible refine (HGr.out _ H1.out.2).mono ?_); rintro x w1 ⟨rfl, hb1⟩; have G1 := zh (HQ.out _ _ H1.out hb1); clear hb1 dr d0 d1 d2; obtain ⟨dr, d0, d1, d2⟩ := HRC.out _ _ _ _ G1.out.2; simp only at d0 d1 d2) | (go_at_call 120; (with_reducible refine (HSr.out _ G1.out.2).mono ?_); rintro x w2 ⟨rfl, hb2⟩; have G2 := zh (HQ.out _ _ G1.out hb2); clear hb2 dr d0 d1 d2; obtain ⟨dr, d0, d1, d2⟩ := HRC.out _ _ _ _ G2.out.2; simp only at d0 d1 d2))
              go_ret
              exact ⟨ret_bool8 (by rw [HV.out]), G2.out.1⟩
            | true =>
              rw [hsx] at HSr HOK
              have HA2 : Hid ((l.take (k + 1)).all recOk = true) := zh (by rw [HS1.out, HA.out, HOK.out]; rfl)
              obtain ⟨hw2, hw3, hw4⟩ := HW.out hsx
              clear HF HOK HS1 hgx hsx HA HW
              go_wp2_with (first | (go_at_call 183; (with_reducible refine (HGr.out _ H1.out.2).mono ?_); rintro x w1 ⟨rfl, hb1⟩; have G1 := zh (HQ.out _ _ H1.out hb1); clear hb1 dr d0 d1 d2; obtain ⟨dr, d0, d1, d2⟩ := HRC.out _ _ _ _ G1.out.2; simp only at d0 d1 d2) | (go_at_call 120; (with_reducible refine (HSr.out _ G1.out.2).mono ?_); rintro x w2 ⟨rfl, hb2⟩; have G2 := zh (HQ.out _ _ G1.out hb2); clear hb2 dr d0 d1 d2; obtain ⟨dr, d0, d1, d2⟩ := HRC.out _ _ _ _ G2.out.2; simp only at d0 d1 d2))
              go_roundw
              case rel => exact ⟨k + 1, by omega, by go_num, by rw [HS3.out], HA2, zh G2.out.1⟩
              case measure => simp [intOf]; omega
        · have hd : ¬ (k : Int) < (n : Int) := by omega
          have HA2 : Hid (l.all recOk = true) := zh (by
            have e := HA.out
            rw [List.take_of_length_le (by rw [← HN.out]; omega)] at e
            exact e)
          have HZ : Hid (sizeR (l.take k) = sizeR l) := zh (by rw [List.take_of_length_le (by rw [← HN.out]; omega)])
          have HV : Hid (R = decide ((sizeR (l.take k) : Int) ≤ 1400)) := zh (by
            rw [HRV.out, HA2.out, HZ.out]
            simp only [Bool.true_and]
            rw [Bool.eq_iff_iff]; simp; omega)
          generalize sizeR (l.take k) = z at *
          by_cases hz : (z : Int) ≤ 1400
          · have tz : decide ((z : Int) ≤ 1400) = true := decide_eq_true hz
            rw [tz] at HV
            go_wp2
            go_ret
            exact ⟨ret_bool8 (by rw [HV.out]; try (first | exact tz | exact tz.symm)), HB.out⟩
          · have tz : decide ((z : Int) ≤ 1400) = false := decide_eq_false hz
            rw [tz] at HV
            go_wp2
            go_ret
            exact ⟨ret_bool8 (by rw [HV.out]; try (first | exact tz | exact tz.symm)), HB.out⟩
  · have t64 : decide (64 < (n : Int)) = true := decide_eq_true (by omega)
    have HV := zh (show R = false by rw [hR, decide_eq_false (show ¬ n < 65 by omega), Bool.false_and])
    clear hR hr hn h1 h2 hl
    go_enter Tryz.func122, Tryz.ntmps122
    go_wp2
    go_ret
    exact ⟨ret_bool8 (by rw [HV.out]), Below.refl _ _⟩
end Go.Proofs.YtlbdehegknehiaaGreat

