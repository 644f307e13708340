/-
  Texts joined: MdN, TkW, Tq, PureTkB, PureMdB, MdC, IpB, IpC.
-/
import Derived.Test.YtlbdehegknehiaaGreatMg09
import Derived.Test.YtlbdehegknehiaaGreatMg07
import Derived.Test.YtlbdehegknehiaaGreatMg08
import Derived.Deep.RegionHeld3
import Derived.Deep.Cut
import Derived.BigQuiet
import Derived.Test.YtlbdehegknehiaaGreatMg00
import Derived.Test.YtlbdehegknehiaaGreatMg06
import Derived.Deep.QuietTactic
/- A part of the proof. -/
namespace Go.Proofs.YtlbdehegknehiaaGreat
open Go.RowKit
set_option linter.unusedVariables false
end Go.Proofs.YtlbdehegknehiaaGreat

/- A part of the proof. -/
namespace Go.Proofs.YtlbdehegknehiaaGreat
open Go.RowKit
set_option linter.unusedVariables false
set_option linter.unusedSimpArgs false
attribute [local go_sem ↓] ld_addr st_addr bld_addr ld_rec st_rec
attribute [local go_sem] ldr_addr str_addr ldr_rec str_rec
def TB (w W : World) (t : TK) (us ur : Value) : Prop := TkAt W w.heap.size t us ur ∧ Below w.heap.size w W
theorem TB.made (w : World) (t : TK) (us ur : Value) (h : adOk t.g) : TB w (w.alloc (.cells (tkC t us ur).toArray 28)) t us ur := ⟨TkAt.made w t us ur h, (Below.refl _ _).alloc (Nat.le_refl _) _⟩
theorem TB.keep {w W W' : World} {t : TK} {us ur : Value} (h : TB w W t us ur) (hb : Below W.heap.size W W') : TB w W' t us ur := ⟨h.1.below hb, bstep h.2 hb⟩
theorem TB.drewN {w W : World} {t : TK} {us ur : Value} (h : TB w W t us ur) (n : Nat) : TB w (W.drewN n) t us ur := h.keep (bdrewN (Below.refl _ _) n)
end Go.Proofs.YtlbdehegknehiaaGreat

/- A part of the proof. -/
namespace Go.Proofs.YtlbdehegknehiaaGreat
open Go.RowKit
set_option linter.unusedVariables false
set_option linter.unusedSimpArgs false
theorem ld_tk (a : Addr) : loadVar 28 a = aggLd 28 a := rfl
theorem st_tk (a : Addr) (v : Value) : storeVar 28 a v = aggSt 28 a v := rfl
theorem bld_tk (p : Array (Nat × Value)) : Instr.build 28 p = aggBuild 28 p := rfl
theorem ldr_tk (b o : Nat) (w : World) : (aggLd 28 ⟨b, o, none⟩).run Tryz.prog w = match row? w b o 26 with | some cs => .ok (.agg cs.toArray) w | none => aggLdSlow 28 b o w :=
  ld_run Tryz.underlying28 rfl (by kernel_rfl) b o w
theorem str_tk (b : Nat) (cs : Array Value) (w : World) : (aggSt 28 ⟨b, 0, none⟩ (.agg cs)).run Tryz.prog w = match free? w b 0 26 && fok cs 26 with | true => .ok () (aggW w b cs.toList) | false => aggStSlow 28 b 0 (.agg cs) w :=
  st_run (by kernel_rfl) b cs w
theorem tkC_one {t : TK} {us ur : Value} (h1 : us.oneCell' = true) (h2 : ur.oneCell' = true) : ∀ v ∈ tkC t us ur, v.oneCell' = true := by
  intro v hv
  unfold tkC at hv
  simp only [List.mem_cons, List.mem_append, List.not_mem_nil, or_false] at hv
  rcases hv with (rfl | rfl | rfl | rfl) | (hv | rfl | rfl | rfl | rfl | rfl)
  · rfl
  · rfl
  · rfl
  · rfl
  · exact addrC_one _ _ v hv
  · rfl
  · rfl
  · rfl
  · exact h1
  · exact h2
theorem fok_tk {t : TK} {us ur : Value} (h : adOk t.g) (h1 : us.oneCell' = true) (h2 : ur.oneCell' = true) : fok (tkC t us ur).toArray 26 = true := by
  have h3 : (tkC t us ur).toArray.all (·.oneCell') = true := all_oneCell_toArray (tkC_one h1 h2)
  simp only [fok, h3, Bool.and_true]
  simp [tkC_length h]
theorem Rcs.one {w : World} {v : Value} {l : List RC} (h : Rcs w v l) : v.oneCell' = true := by
  obtain ⟨p, cap, h1, _⟩ := h; rw [h1]; rfl
theorem tkC_tail (t : TK) (us ur : Value) (h : adOk t.g) (j : Nat) (v : Value) : (tkC t us ur).set (21 + j) v = [.bool t.v6, .int .i64 t.ver, .int .i64 t.kind, .int .i64 t.resp] ++ (adC t.g ++ [.bool t.quiet, .int .i64 t.rob, .int .i64 t.every, us, ur].set j v) := by
  unfold tkC
  have hl := adC_length h
  rw [List.set_append_right _ _ (by simp; omega), List.set_append_right _ _ (by simp; omega)]
  simp only [List.length_cons, List.length_nil, hl]
  rw [show 21 + j - (0 + 1 + 1 + 1 + 1) - 17 = j by omega]
def AdsT (w : World) (v : Value) (l : List AD) : Prop := Ads w v l ∧ AdT w v
def RcT (w : World) (v : Value) (l : List RC) : Prop := ∃ base q, RQ base w v q ∧ q.map Prod.fst = l
theorem AdsT.below {w w' : World} {v : Value} {l : List AD} (h : AdsT w v l) (hb : Below w.heap.size w w') : AdsT w' v l := ⟨h.1.below hb, h.2.below hb⟩
theorem RcT.below {w w' : World} {v : Value} {l : List RC} (h : RcT w v l) (hb : Below w.heap.size w w') : RcT w' v l := by
  obtain ⟨base, q, h1, h2⟩ := h
  exact ⟨base, q, h1.below hb, h2⟩
theorem AdsT.nil (w : World) : AdsT w (.slice none 0 0) [] := ⟨Ads.nil w, fun b o n c e => by cases e⟩
theorem RcT.nil (w : World) : RcT w (.slice none 0 0) [] := ⟨0, [], ⟨⟨rfl, Or.inl ⟨rfl, rfl⟩⟩, fun x hx => by cases hx⟩, rfl⟩
theorem RcT.rcs {w : World} {v : Value} {l : List RC} (h : RcT w v l) : Rcs w v l := by
  obtain ⟨base, q, h1, rfl⟩ := h
  exact h1.rcs
theorem AdT.farT {w : World} {u : Value} {m : Nat} {L : Array Value} (h : AdT w u) (hm : ObjAt w m L 28) : ∀ b o n c, u = .slice (some ⟨b, o, none⟩) n c → some b ≠ some m := fun b o n c e => by
  obtain ⟨h1, cur, fz, h2⟩ := h b o n c e
  intro hb
  simp only [Option.some.injEq] at hb
  subst hb
  unfold ObjAt at hm
  rw [h2] at hm
  simp at hm
theorem AdsT.grown {w w' : World} {v : Value} {l : List AD} {m : Nat} {L : Array Value} (h : AdsT w v l) (hm : ObjAt w m L 28) (hg : w.grownBy w' (some m)) : AdsT w' v l := ⟨h.1.grown hg (h.2.farT hm), h.2.grown hg (h.2.farT hm)⟩
theorem own_grown {w w' : World} {base n m : Nat} {v : Value} {xs : List Value} {L : Array Value} (h : w.ownsRow base 109 19 v n xs) (hm : ObjAt w m L 28) (hg : w.grownBy w' (some m)) : w'.ownsRow base 109 19 v n xs := by
  obtain ⟨h1, h2 | ⟨g, cap, cur, e1, e2, e3, e4⟩⟩ := h
  · exact ⟨h1, .inl h2⟩
  · refine ⟨h1, .inr ⟨g, cap, cur, e1, e2, (hg.block g (Array.getElem?_eq_some_iff.1 e3).1 ?_).trans e3, e4⟩⟩
    intro hb
    simp only [Option.some.injEq] at hb
    subst hb
    unfold ObjAt at hm
    rw [e3] at hm
    simp at hm
theorem RcT.grown {w w' : World} {v : Value} {l : List RC} {m : Nat} {L : Array Value} (h : RcT w v l) (hm : ObjAt w m L 28) (hg : w.grownBy w' (some m)) : RcT w' v l := by
  obtain ⟨base, q, ⟨h1, h2⟩, h3⟩ := h
  refine ⟨base, q, ⟨own_grown h1 hm hg, fun x hx => ?_⟩, h3⟩
  obtain ⟨a, b, c⟩ := h2 x hx
  exact ⟨a, b.grown hg (c.farT hm), c.grown hg (c.farT hm)⟩
theorem setCells_grown (b : Nat) : ∀ (cs : List Value) (o : Nat) (w : World), w.grownBy (w.setCells b o cs) (some b)
  | [], _, w => ⟨rfl, rfl, rfl, Nat.le_refl _, fun _ _ _ => rfl⟩
  | v :: r, o, w => gtrans (gset w b o v) (setCells_grown b r (o + 1) _)
theorem aggW_grown (w : World) (b : Nat) (cs : List Value) : w.grownBy (aggW w b cs) (some b) := by rw [aggW_eq]; exact setCells_grown b cs 0 w
structure QT (w W : World) (m : Nat) (t : TK) (us ur : Value) (p : Nat) (L : Array Value) (T : TypeId) : Prop where
  res : ObjAt W w.heap.size zz26 28
  tk : TkAt W m t us ur
  blw : Below w.heap.size w W
  lt : w.heap.size < m
  src : AdsT W us t.src
  rcs : RcT W ur t.rcs
  more : ObjAt W p L T
  ltp : w.heap.size < p
  ne : m ≠ p
theorem QT.below {w W W' : World} {m p : Nat} {t : TK} {us ur : Value} {L : Array Value} {T : TypeId} (h : QT w W m t us ur p L T) (hb : Below W.heap.size W W') : QT w W' m t us ur p L T :=
  ⟨h.res.below hb h.res.lt, h.tk.below hb, bstep h.blw hb, h.lt, h.src.below hb, h.rcs.below hb, h.more.below hb h.more.lt, h.ltp, h.ne⟩
theorem QT.free {w W : World} {m p : Nat} {t : TK} {us ur : Value} {L : Array Value} {T : TypeId} (h : QT w W m t us ur p L T) : free? W w.heap.size 0 26 = true := obj_free h.res (by simp)
theorem QT.fok {w W : World} {m p : Nat} {t : TK} {us ur : Value} {L : Array Value} {T : TypeId} (h : QT w W m t us ur p L T) : fok (tkC t us ur).toArray 26 = true := fok_tk h.tk.2 h.src.1.one h.rcs.rcs.one
theorem QT.done {w W : World} {m p : Nat} {t : TK} {us ur : Value} {L : Array Value} {T : TypeId} (h : QT w W m t us ur p L T) :
    row? (aggW W w.heap.size (tkC t us ur)) w.heap.size 0 26 = some (tkC t us ur) ∧ Below w.heap.size w (aggW W w.heap.size (tkC t us ur)) ∧ AdsT (aggW W w.heap.size (tkC t us ur)) us t.src ∧ RcT (aggW W w.heap.size (tkC t us ur)) ur t.rcs :=
  ⟨aggW_row h.free (tkC_length h.tk.2 _ _), aggW_below h.blw (Nat.le_refl _) _, h.src.grown h.res (aggW_grown _ _ _), h.rcs.grown h.res (aggW_grown _ _ _)⟩
theorem QT.set {w W : World} {m p : Nat} {t t' : TK} {us ur us' ur' : Value} {L : Array Value} {T : TypeId} (h : QT w W m t us ur p L T) (j : Nat) (v : Value) (e : (tkC t us ur).set j v = tkC t' us' ur') (ho : adOk t'.g) (hs : AdsT W us' t'.src) (hr : RcT W ur' t'.rcs) :
    QT w (W.setCell ⟨m, j, none⟩ v) m t' us' ur' p L T := by
  have hlt := h.lt
  have h1 : ObjAt (W.setCell ⟨m, j, none⟩ v) m (tkC t' us' ur').toArray 28 := by
    have := ObjAt.set h.tk.1 j v
    rw [zsA, e] at this
    exact this
  exact ⟨h.res.other _ _ (by simp; omega), ⟨h1, ho⟩, h.blw.setCell (p := ⟨m, j, none⟩) (by simp; omega) v, h.lt, hs.grown h.tk.1 (gset W m j v), hr.grown h.tk.1 (gset W m j v), h.more.other _ _ (by simpa using h.ne.symm), h.ltp, h.ne⟩
theorem QT.put {w W : World} {m p : Nat} {t t' : TK} {us ur us' ur' : Value} {L : Array Value} {T : TypeId} (h : QT w W m t us ur p L T) (ho : adOk t'.g) (hs : AdsT W us' t'.src) (hr : RcT W ur' t'.rcs) :
    QT w (aggW W m (tkC t' us' ur')) m t' us' ur' p L T := by
  have hlt := h.lt
  exact ⟨aggW_other h.res _ (by omega), ⟨aggW_obj h.tk.1 (by rw [tkC_length ho, tkC_length h.tk.2]) (tkC_one hs.1.one hr.rcs.one), ho⟩, aggW_below h.blw (by omega) _, h.lt, hs.grown h.tk.1 (aggW_grown _ _ _), hr.grown h.tk.1 (aggW_grown _ _ _), aggW_other h.more _ h.ne.symm, h.ltp, h.ne⟩
theorem QT.freem {w W : World} {m p : Nat} {t : TK} {us ur : Value} {L : Array Value} {T : TypeId} (h : QT w W m t us ur p L T) : free? W m 0 26 = true := obj_free h.tk.1 (by simp [tkC_length h.tk.2])
def QC (w W : World) (m : Nat) (t : TK) (us ur : Value) : Prop :=
  W.cell? ⟨m, 1, none⟩ = some (.int .i64 t.ver) ∧ W.cell? ⟨m, 2, none⟩ = some (.int .i64 t.kind) ∧ W.cell? ⟨m, 3, none⟩ = some (.int .i64 t.resp) ∧ row? W m 4 17 = some (adC t.g) ∧ row? W m 0 26 = some (tkC t us ur) ∧ free? W w.heap.size 0 26 = true ∧ free? W m 0 26 = true ∧
  W.cell? ⟨m, 21, none⟩ = some (.bool t.quiet) ∧ W.cell? ⟨m, 22, none⟩ = some (.int .i64 t.rob) ∧ W.cell? ⟨m, 23, none⟩ = some (.int .i64 t.every) ∧ W.cell? ⟨m, 24, none⟩ = some us ∧ W.cell? ⟨m, 25, none⟩ = some ur ∧ (∀ j, W.frozen? ⟨m, j, none⟩ = false)
theorem QT.cells {w W : World} {m p : Nat} {t : TK} {us ur : Value} {L : Array Value} {T : TypeId} (h : QT w W m t us ur p L T) : QC w W m t us ur :=
  ⟨h.tk.ver, h.tk.kind, h.tk.resp, h.tk.rg, h.tk.row, h.free, h.freem, h.tk.quiet, h.tk.rob, h.tk.every, h.tk.us, h.tk.ur, fun j => ObjAt.free h.tk.1 j⟩
theorem tkC_ver (t : TK) (us ur : Value) (x : Int) : (tkC t us ur).set 1 (.int .i64 x) = tkC ⟨t.v6, x, t.kind, t.resp, t.g, t.quiet, t.rob, t.every, t.src, t.rcs⟩ us ur := rfl
theorem tkC_resp (t : TK) (us ur : Value) (x : Int) : (tkC t us ur).set 3 (.int .i64 x) = tkC ⟨t.v6, t.ver, t.kind, x, t.g, t.quiet, t.rob, t.every, t.src, t.rcs⟩ us ur := rfl
theorem tkC_quiet (t : TK) (us ur : Value) (h : adOk t.g) (x : Bool) : (tkC t us ur).set 21 (.bool x) = tkC ⟨t.v6, t.ver, t.kind, t.resp, t.g, x, t.rob, t.every, t.src, t.rcs⟩ us ur := tkC_tail t us ur h 0 _
theorem tkC_rob (t : TK) (us ur : Value) (h : adOk t.g) (x : Int) : (tkC t us ur).set 22 (.int .i64 x) = tkC ⟨t.v6, t.ver, t.kind, t.resp, t.g, t.quiet, x, t.every, t.src, t.rcs⟩ us ur := tkC_tail t us ur h 1 _
theorem tkC_every (t : TK) (us ur : Value) (h : adOk t.g) (x : Int) : (tkC t us ur).set 23 (.int .i64 x) = tkC ⟨t.v6, t.ver, t.kind, t.resp, t.g, t.quiet, t.rob, x, t.src, t.rcs⟩ us ur := tkC_tail t us ur h 2 _
theorem tkC_src (t : TK) (us ur : Value) (h : adOk t.g) (v : Value) (l : List AD) : (tkC t us ur).set 24 v = tkC ⟨t.v6, t.ver, t.kind, t.resp, t.g, t.quiet, t.rob, t.every, l, t.rcs⟩ v ur := tkC_tail t us ur h 3 _
theorem tkC_rcs (t : TK) (us ur : Value) (h : adOk t.g) (v : Value) (l : List RC) : (tkC t us ur).set 25 v = tkC ⟨t.v6, t.ver, t.kind, t.resp, t.g, t.quiet, t.rob, t.every, t.src, l⟩ us v := tkC_tail t us ur h 4 _
theorem bldr_tk0 (w : World) : (aggBuild 28 #[]).run Tryz.prog w = .ok (.agg (tkC zeroT (.slice none 0 0) (.slice none 0 0)).toArray) w := bld_run _ _ _ (by kernel_rfl) _
end Go.Proofs.YtlbdehegknehiaaGreat

/- A part of the proof. -/
namespace Go.Proofs.YtlbdehegknehiaaGreat
open Go.RowKit
set_option linter.unusedVariables false
theorem zeroT_ok : zeroT.ok := ⟨rfl, fun a h => (by cases h), fun r h => (by cases h)⟩
end Go.Proofs.YtlbdehegknehiaaGreat

/- A part of the proof. -/
namespace Go.Proofs.YtlbdehegknehiaaGreat
open Go.RowKit
set_option linter.unusedVariables false
theorem sixL_ok (s : List UInt8) (i : Nat) : adOk (sixL s i) := readV_length _ (by simp; omega)
end Go.Proofs.YtlbdehegknehiaaGreat

/- A part of the proof. -/
namespace Go.Proofs.YtlbdehegknehiaaGreat
open Go.RowKit
set_option linter.unusedVariables false
attribute [local go_sem ↓] ld_addr st_addr bld_addr adsLit_eq
attribute [local go_sem] ldr_addr str_addr row?_drewN_eq row?_drew_eq
end Go.Proofs.YtlbdehegknehiaaGreat

/- A part of the proof. -/
namespace Go.Proofs.YtlbdehegknehiaaGreat
set_option maxRecDepth 100000
set_option maxHeartbeats 1000000
open Go.RowKit
set_option linter.unusedVariables false
attribute [local go_sem ↓] bld_ip ld_ip st_ip ld_addr st_addr
attribute [local go_sem] ldr_ip str_ip ldr_addr str_addr
theorem inr_any (n m : Int) (w : World) : Calls Tryz.prog 189 #[.int .i64 n, .int .i64 m] w fun x w' => x = .returned (.bool (decide (0 ≤ n ∧ n ≤ m))) ∧ w = w' := by
  go_enter Tryz.func189, Tryz.ntmps189
  go_wp2
  all_goals
    go_ret
    exact ⟨ret_bool (by rw [Bool.eq_iff_iff]; simp; try (intros; first | omega | (simp_all; omega))), rfl⟩
theorem gaddr_any (v : Bool) (l : List UInt8) (hl : l.length = 16) (w : World) : Calls Tryz.prog 190 #[.agg (addrC v l).toArray] w fun x w' => x = .returned (.bool (goodV v l && !v)) ∧ Below w.heap.size w w' := by
  have h0 : ObjAt (w.alloc (.cells (addrC v l).toArray 24)) w.heap.size (addrC v l).toArray 24 := ObjAt.made w _ _
  have HK : Hid (∀ W', Below (w.alloc (.cells (addrC v l).toArray 24)).heap.size (w.alloc (.cells (addrC v l).toArray 24)) W' → W'.cell? ⟨w.heap.size, 0, none⟩ = some (.bool v) ∧ Below w.heap.size w W') := zh fun W' hb => by
    have h1 := h0.below hb h0.lt
    exact ⟨by rw [h1.cell]; rfl, bstep ((Below.refl _ _).alloc (Nat.le_refl _) _) hb⟩
  have hr := row_box w v l hl 24
  have HG := zh (fun W => good_any v l hl W)
  clear h0
  generalize goodV v l = g at HG ⊢
  go_enter Tryz.func190, Tryz.ntmps190
  go_upto_region 1 with (fail)
  generalize w.alloc (.cells (addrC v l).toArray 24) = W at HK hr ⊢
  cases g with
  | false =>
    go_wp2_with (go_at_call 28; (with_reducible refine (HG.out _).mono ?_); rintro x w1 ⟨rfl, hb1⟩; have H1 := zh (HK.out _ hb1); clear hb1)
    go_ret
    exact ⟨rfl, H1.out.2⟩
  | true =>
    go_wp2_with (go_at_call 28; (with_reducible refine (HG.out _).mono ?_); rintro x w1 ⟨rfl, hb1⟩; have H1 := zh (HK.out _ hb1); have hc := H1.out.1; clear hb1)
    go_ret
    exact ⟨rfl, H1.out.2⟩
theorem opt_bytes (b : Bool) : (.string (Str (optL b)) : Value) = .string (if b then ⟨#[148, 4, 0, 0]⟩ else ⟨#[]⟩) := by cases b <;> rfl
theorem opts_any (p : Ip) (ho : p.ok) (w : World) : Calls Tryz.prog 146 #[.agg (ipC p).toArray] w fun x w' => x = .returned (.string (Str (optL p.al))) ∧ Below w.heap.size w w' := by
  have HB := zh (IB.made w p)
  have HT := zh (opt_bytes p.al)
  obtain ⟨S, hS⟩ : ∃ S, S = Str (optL p.al) := ⟨_, rfl⟩
  rw [← hS]
  have HS := zh hS; clear hS
  go_enter Tryz.func146, Tryz.ntmps146
  go_upto_region 1 with (fail)
  generalize w.alloc (.cells (ipC p).toArray 78) = W at HB ⊢
  have c1 := HB.out.1.al ho
  generalize p.al = b at c1 HT HS
  cases b <;>
  · go_wp2
    go_ret
    exact ⟨by rw [HS.out, HT.out]; rfl, HB.out.2⟩
theorem put5_any (n : Nat) (hn : n ≤ 9223372036854775807) (w : World) : Calls Tryz.prog 144 #[.int .i64 n] w fun x w' => x = .returned (.string (Str (putL n 2))) ∧ Below w.heap.size w w' := by
  have hwr : IntKind.u64.wrap (n : Int) = (n : Int) := by simp only [IntKind.wrap_u64]; omega
  have HP : Hid (∀ W, Calls Tryz.prog 73 #[.int .u64 n, .int .i64 2] W fun e w' => e = .returned (.string (Str (putL n 2))) ∧ Below W.heap.size W w') := zh fun W => put_any n (by omega) 2 W
  clear hn
  go_enter Tryz.func144, Tryz.ntmps144
  go_wp2_with (go_at_call 73; (with_reducible refine (HP.out _).mono ?_); rintro x w1 ⟨rfl, hb1⟩; have H1 := zh hb1; clear hb1)
  go_ret
  exact ⟨rfl, H1.out⟩
theorem bits_or_i64_nat (a b : Nat) (ha : a < 9223372036854775808) (hb : b < 9223372036854775808) :
    bits .or .i64 (a : Int) (b : Int) = ((a ||| b : Nat) : Int) := by
  have hx : a ||| b < 2 ^ 63 := Nat.or_lt_two_pow (by omega) (by omega)
  have h1 : (BitVec.ofInt 64 (a : Int)).toNat = a := by
    rw [BitVec.ofInt_natCast, BitVec.toNat_ofNat]; exact Nat.mod_eq_of_lt (by omega)
  have h2 : (BitVec.ofInt 64 (b : Int)).toNat = b := by
    rw [BitVec.ofInt_natCast, BitVec.toNat_ofNat]; exact Nat.mod_eq_of_lt (by omega)
  show IntKind.i64.wrap ((BitVec.ofInt 64 (a : Int) ||| BitVec.ofInt 64 (b : Int)).toNat : Int) = _
  rw [BitVec.toNat_or, h1, h2, IntKind.wrap_i64]
  omega
theorem or_two (a b : Nat) (ha : a < 256) (hb : b < 256) : bits BinOp.or IntKind.i64 ((a : Int) * 256) (b : Int) = ((256 * a + b : Nat) : Int) := by
  rw [show ((a : Int) * 256) = ((a * 256 : Nat) : Int) by omega, bits_or_i64_nat _ _ (by omega) (by omega)]
  have e : a * 256 = a <<< 8 := by rw [Nat.shiftLeft_eq]
  rw [e, ← Nat.shiftLeft_add_eq_or_of_lt (by omega), Nat.shiftLeft_eq]
  omega
theorem hopw_any (p : Ip) (ho : p.ok) (a b : Nat) (ha : p.ttl = a) (hb : p.pro = b) (ha1 : a < 256) (hb1 : b < 256) (w : World) : Calls Tryz.prog 145 #[.agg (ipC p).toArray] w fun x w' => x = .returned (.int .i64 ((256 * a + b : Nat) : Int)) ∧ Below w.heap.size w w' := by
  have HB := zh (IB.made w p)
  have hor := or_two a b ha1 hb1
  have hw1 : IntKind.i64.wrap ((a : Int) * 256) = (a : Int) * 256 := by simp only [IntKind.wrap_i64]; omega
  generalize 256 * a + b = N at hor ⊢
  go_enter Tryz.func145, Tryz.ntmps145
  go_upto_region 1 with (fail)
  generalize w.alloc (.cells (ipC p).toArray 78) = W at HB ⊢
  have c1 := HB.out.1.ttl
  have c2 := HB.out.1.pro
  rw [ha] at c1
  rw [hb] at c2
  clear ha hb ho
  go_wp2
  go_ret
  exact ⟨rfl, HB.out.2⟩
theorem Str_at (s : List UInt8) (i : Nat) (h : i < (Str s).size) : ((Str s)[i]).toNat = by8 s i := by
  rw [Str_size] at h
  rw [by8_get s i h]; rfl
theorem word5_any (s : List UInt8) (i : Nat) (hi : i + 2 ≤ s.length) (hs : s.length ≤ 1000000) (w : World) : Calls Tryz.prog 168 #[.string (Str s), .int .i64 i] w fun x w' => x = .returned (.int .i64 (wd s i)) ∧ ∃ k, w' = w.drewN k := by
  have hsz := Str_size s
  have h1 : i < (Str s).size := by omega
  have h2 : i + 1 < (Str s).size := by omega
  have e1 := Str_at s i h1
  have e2 := Str_at s (i + 1) h2
  have b1 := by8_lt s i
  have b2 := by8_lt s (i + 1)
  have hor := or_two _ _ b1 b2
  have HWD := zh (wd_eq s i hi)
  rw [HWD.out]
  generalize by8 s i = x at *
  generalize by8 s (i + 1) = y at *
  have hw1 : IntKind.i64.wrap ((x : Int) * 256) = (x : Int) * 256 := by simp only [IntKind.wrap_i64]; omega
  generalize 256 * x + y = N at hor ⊢
  have hi1 : (i : Int) < (s.length : Int) := by omega
  have hi2 : (i : Int) + 1 < (s.length : Int) := by omega
  go_enter Tryz.func168, Tryz.ntmps168
  go_wp2_with fail
  go_quiet (fail)
  go_wp2
  go_ret
  exact ⟨rfl, _, rfl⟩
theorem osz_any (l : List UInt8) (hl : 0 < l.length) (hl2 : l.length ≤ 1000000) (w : World) : Calls Tryz.prog 202 #[.string (Str l)] w fun x w' => x = .returned (.int .i64 (osz l)) ∧ w = w' := by
  have hsz := Str_size l
  have hi0 : (0 : Int) < (l.length : Int) := by omega
  have h0 : 0 < (Str l).size := by omega
  have e0 := Str_at l 0 h0
  have b0 := by8_lt l 0
  have b1 := by8_lt l 1
  obtain ⟨R, hR⟩ : ∃ R, R = osz l := ⟨_, rfl⟩
  rw [← hR]
  unfold osz at hR
  by_cases h1 : by8 l 0 = 1
  · rw [if_pos h1] at hR
    have HR := zh hR; clear hR
    have hx : ((by8 l 0 : Int) == 1) = true := by simp; omega
    generalize by8 l 0 = x at *
    go_enter Tryz.func202, Tryz.ntmps202
    go_wp2
    go_ret
    exact ⟨ret_int (by rw [HR.out]; try rfl), rfl⟩
  · rw [if_neg h1] at hR
    have hx : ((by8 l 0 : Int) == 1) = false := by simp; omega
    generalize by8 l 0 = x at *
    by_cases h2 : l.length < 2
    · rw [if_pos (by omega)] at hR
      have HR := zh hR; clear hR
      have hd : (l.length : Int) < 2 := by omega
      go_enter Tryz.func202, Tryz.ntmps202
      go_wp2
      go_ret
      exact ⟨ret_int (by rw [HR.out]; try rfl), rfl⟩
    · have g1 : 1 < (Str l).size := by omega
      have e1 := Str_at l 1 g1
      have hi1 : (1 : Int) < (l.length : Int) := by omega
      have hi2 : ¬ ((l.length : Int) < 2) := by omega
      generalize by8 l 1 = y at *
      by_cases h3 : y < 2
      · rw [if_pos (by omega)] at hR
        have HR := zh hR; clear hR
        have hd : (y : Int) < 2 := by omega
        go_enter Tryz.func202, Tryz.ntmps202
        go_wp2
        go_ret
        exact ⟨ret_int (by rw [HR.out]; try rfl), rfl⟩
      · have hd : ¬ ((y : Int) < 2) := by omega
        by_cases h4 : l.length < y
        · rw [if_pos (by omega)] at hR
          have HR := zh hR; clear hR
          have hd2 : (l.length : Int) < (y : Int) := by omega
          go_enter Tryz.func202, Tryz.ntmps202
          go_wp2
          go_ret
          exact ⟨ret_int (by rw [HR.out]; try rfl), rfl⟩
        · rw [if_neg (by omega)] at hR
          have HR := zh hR; clear hR
          have hd2 : ¬ ((l.length : Int) < (y : Int)) := by omega
          go_enter Tryz.func202, Tryz.ntmps202
          go_wp2
          go_ret
          exact ⟨ret_int (by rw [HR.out]; try rfl), rfl⟩
theorem str_alert (l : List UInt8) (n : Nat) : ((Str l).extract 0 n).toList = l.take n := by
  rw [Str_extract, ByteArray.toList_eq]
  simp [Str]
end Go.Proofs.YtlbdehegknehiaaGreat

/- A part of the proof. -/
namespace Go.Proofs.YtlbdehegknehiaaGreat
set_option maxRecDepth 100000
set_option maxHeartbeats 1000000
open Go.RowKit
set_option linter.unusedVariables false
attribute [local go_sem ↓] bld_ip ld_ip st_ip ld_addr st_addr
attribute [local go_sem] ldr_ip str_ip ldr_addr str_addr
theorem readOpts_any (L : List UInt8) (hL : L.length ≤ 100000) (w : World) : Calls Tryz.prog 169 #[.string (Str L)] w fun x w' => x = .returned (.tuple #[.bool (optR false L).1, .bool (optR false L).2]) ∧ w = w' := by
  obtain ⟨R, hR⟩ : ∃ R, R = optR false L := ⟨_, rfl⟩
  rw [← hR]
  have HR := zh hR; clear hR
  go_enter Tryz.func169, Tryz.ntmps169
  go_wp2_with fail
  go_loop [0, 2, 4] (fun s b z => ∃ (l : List UInt8) (is : Bool), l.length ≤ L.length ∧ s = .string (Str l) ∧ b = .bool is ∧ R = optR is l) (fun s _ _ => match s with | .string t => t.size | _ => 0)
  case atStart => exact ⟨L, false, by omega, rfl, rfl, HR.out⟩
  case round =>
    obtain ⟨l, is, hle, rfl, rfl, hRl⟩ := hrel
    have HRl := zh hRl; clear hRl
    have hsz := Str_size l
    have b0 := by8_lt l 0
    by_cases hl : l.length = 0
    · have hnil : l = [] := List.eq_nil_of_length_eq_zero hl
      have HV := zh (show R = (is, true) by rw [HRl.out, hnil]; rfl)
      have hd : ¬ ((0 : Int) < (l.length : Int)) := by omega
      go_wp2
      go_ret2
      exact ⟨by rw [HV.out]; rfl, rfl⟩
    · have hd : (0 : Int) < (l.length : Int) := by omega
      have g0 : 0 < (Str l).size := by omega
      have e0 := Str_at l 0 g0
      by_cases hz : by8 l 0 = 0
      · have HV := zh (show R = (is, true) by
          rw [HRl.out]
          match l, hl with
          | b :: r, _ => exact optR_end is b r hz)
        have hx : ((by8 l 0 : Int) != 0) = false := by simp; omega
        generalize by8 l 0 = x at *
        go_wp2
        go_ret2
        exact ⟨by rw [HV.out]; rfl, rfl⟩
      · have hx : ((by8 l 0 : Int) != 0) = true := by simp; omega
        have HO := zh (fun w => osz_any l (by omega) (by omega) w)
        have hoz := osz_le l (by omega)
        by_cases ho : osz l = 0
        · have HV := zh (show R = (false, false) by rw [HRl.out]; exact optR_osz0 is l (by omega) hz ho)
          generalize by8 l 0 = x at *
          generalize osz l = n at *
          subst ho
          go_wp2_with (go_at_call 202; (with_reducible refine (HO.out _).mono ?_); rintro x w1 ⟨rfl, rfl⟩)
          go_ret2
          exact ⟨by rw [HV.out]; rfl, rfl⟩
        · have HV := zh (show R = optR (is || decide (l.take (osz l) = alertL)) (l.drop (osz l)) by rw [HRl.out]; exact optR_osz is l (by omega) hz ho)
          have HQ := zh (show ∀ b : Bool, (b || decide (l.take (osz l) = alertL)) = (b || (l.take (osz l) == [148, 4, 0, 0])) from fun b => by congr 1; rw [Bool.eq_iff_iff, decide_eq_true_iff, beq_iff_eq]; rfl)
          rw [HQ.out] at HV
          have hq := str_alert l (osz l)
          have hx1 : (Str l).extract (osz l) l.length = Str (l.drop (osz l)) := by rw [Str_extract, List.take_of_length_le (by simp)]
          have hn0 : ((osz l : Int) == 0) = false := by simp; omega
          generalize by8 l 0 = x at *
          generalize hn : osz l = n at *
          have hle1 : (n : Int) ≤ (l.length : Int) := by omega
          have hle0 : (0 : Int) ≤ (n : Int) := by omega
          cases is <;>
          · go_wp2_with (go_at_call 202; (with_reducible refine (HO.out _).mono ?_); rintro x w1 ⟨rfl, rfl⟩)
            go_round
            case rel => exact ⟨l.drop n, _, by simp; omega, rfl, rfl, HV.out⟩
            case measure => simp [Str_size]; omega
def hdS (s : List UInt8) : List UInt8 := if hdE s = 0 then s.take (hdN s) else []
theorem header_any (s : List UInt8) (hs : s.length ≤ 100000) (w : World) : Calls Tryz.prog 167 #[.string (Str s)] w fun x w' => x = .returned (.tuple #[.string (Str (hdS s)), .int .i64 (hdE s)]) ∧ Below w.heap.size w w' := by
  have hsz := Str_size s
  obtain ⟨H, hH⟩ : ∃ H, H = hdS s := ⟨_, rfl⟩
  obtain ⟨R, hR⟩ : ∃ R, R = hdE s := ⟨_, rfl⟩
  rw [← hH, ← hR]
  unfold hdS at hH
  rw [← hR] at hH
  unfold hdE at hR
  have hrf : (Str ([] : List UInt8)) = ⟨#[]⟩ := rfl
  by_cases h20 : s.length < 20
  · rw [if_pos h20] at hR
    have HH := zh (show Str H = ⟨#[]⟩ by rw [hH, hR]; rfl)
    have HR := zh hR; clear hR hH
    have hd : (s.length : Int) < 20 := by omega
    go_enter Tryz.func167, Tryz.ntmps167
    go_wp2
    go_ret2
    exact ⟨by rw [HR.out, HH.out]; rfl, Below.refl _ _⟩
  · rw [if_neg h20] at hR
    have hd20 : ¬ (s.length : Int) < 20 := by omega
    have g0 : 0 < (Str s).size := by omega
    have hi0 : (0 : Int) < (s.length : Int) := by omega
    have e0 := Str_at s 0 g0
    have b0 := by8_lt s 0
    obtain ⟨m, hm⟩ : ∃ m, m = by8 s 0 % 16 := ⟨_, rfl⟩
    obtain ⟨v, hv⟩ : ∃ v, v = by8 s 0 / 16 := ⟨_, rfl⟩
    have hN : hdN s = 4 * m := by unfold hdN; rw [hm]
    have hand : bits .and .u8 (by8 s 0 : Int) 15 = (m : Int) := by rw [and15 _ b0, hm]; rfl
    have hshr : (by8 s 0 : Int) / 16 = (v : Int) := by rw [hv]; rfl
    have hwv : IntKind.u8.wrap (v : Int) = (v : Int) := by simp only [IntKind.wrap_u8]; omega
    have hw0 : IntKind.i64.wrap (m : Int) = (m : Int) := by simp only [IntKind.wrap_i64]; omega
    have hw1 : IntKind.i64.wrap ((m : Int) * 4) = (m : Int) * 4 := by simp only [IntKind.wrap_i64]; omega
    rw [hN, ← hv] at hR
    rw [hN] at hH
    have hm16 : m < 16 := by omega
    clear hm hv hN
    generalize by8 s 0 = x at *
    by_cases hk : v ≠ 4
    · rw [if_pos hk] at hR
      have HH := zh (show Str H = ⟨#[]⟩ by rw [hH, hR]; rfl)
      have HR := zh hR; clear hR hH
      have hd : ((v : Int) != 4) = true := by simp; omega
      go_enter Tryz.func167, Tryz.ntmps167
      go_wp2
      go_ret2
      exact ⟨by rw [HR.out, HH.out]; rfl, Below.refl _ _⟩
    · rw [if_neg hk] at hR
      have hdk : ((v : Int) != 4) = false := by simp; omega
      by_cases hn : 4 * m < 20
      · rw [if_pos hn] at hR
        have HH := zh (show Str H = ⟨#[]⟩ by rw [hH, hR]; rfl)
        have HR := zh hR; clear hR hH
        have hd : (m : Int) * 4 < 20 := by omega
        go_enter Tryz.func167, Tryz.ntmps167
        go_wp2
        go_ret2
        exact ⟨by rw [HR.out, HH.out]; rfl, Below.refl _ _⟩
      · rw [if_neg hn] at hR
        have hdn : ¬ (m : Int) * 4 < 20 := by omega
        by_cases hl : s.length < 4 * m
        · rw [if_pos hl] at hR
          have HH := zh (show Str H = ⟨#[]⟩ by rw [hH, hR]; rfl)
          have HR := zh hR; clear hR hH
          have hd : (s.length : Int) < (m : Int) * 4 := by omega
          go_enter Tryz.func167, Tryz.ntmps167
          go_wp2
          go_ret2
          exact ⟨by rw [HR.out, HH.out]; rfl, Below.refl _ _⟩
        · rw [if_neg hl] at hR
          have hdl : ¬ (s.length : Int) < (m : Int) * 4 := by omega
          have hx0 : (0 : Int) ≤ (m : Int) * 4 := by omega
          have hx1 : (m : Int) * 4 ≤ (s.length : Int) := by omega
          have hx2 : ((m : Int) * 4).toNat = 4 * m := by omega
          have hex : (Str s).extract 0 (4 * m) = Str (s.take (4 * m)) := by rw [Str_extract]; simp
          have HG : Hid (∀ W : World, Calls Tryz.prog 201 #[.slice (some ⟨W.heap.size, 0, none⟩) 1 1] (W.alloc (.cells #[.string (Str (s.take (4 * m)))] 9)) fun e w' => e = .returned (.bool (decide (foldN (wsum (s.take (4 * m))) = 65535))) ∧ Below W.heap.size W w') := zh fun W => by
            refine (good_own [s.take (4 * m)] (by simp; omega) (by simp) 0 _ _ (own_lit0 W #[.string (Str (s.take (4 * m)))] _ 1 _ rfl (by omega) rfl)).mono ?_
            rintro e w1 ⟨rfl, d, rfl⟩
            exact ⟨by simp, bdrewN ((Below.refl _ _).alloc (Nat.le_refl _) _) _⟩
          by_cases hg : foldN (wsum (s.take (4 * m))) = 65535
          · rw [if_neg (by simp [hg])] at hR
            rw [decide_eq_true hg] at HG
            have HH := zh (show Str H = Str (s.take (4 * m)) by rw [hH, hR]; rfl)
            have HR := zh hR; clear hR hH hg
            generalize Str (s.take (4 * m)) = T at *
            go_enter Tryz.func167, Tryz.ntmps167
            go_wp2_with (go_at_call 201; (with_reducible refine (HG.out _).mono ?_); rintro x w1 ⟨rfl, hb1⟩; have H1 := zh hb1; clear hb1)
            go_ret2
            exact ⟨by rw [HR.out, HH.out]; rfl, H1.out⟩
          · rw [if_pos hg] at hR
            rw [decide_eq_false hg] at HG
            have HH := zh (show Str H = ⟨#[]⟩ by rw [hH, hR]; rfl)
            have HR := zh hR; clear hR hH hg
            generalize Str (s.take (4 * m)) = T at *
            go_enter Tryz.func167, Tryz.ntmps167
            go_wp2_with (go_at_call 201; (with_reducible refine (HG.out _).mono ?_); rintro x w1 ⟨rfl, hb1⟩; have H1 := zh hb1; clear hb1)
            go_ret2
            exact ⟨by rw [HR.out, HH.out]; rfl, H1.out⟩
end Go.Proofs.YtlbdehegknehiaaGreat

