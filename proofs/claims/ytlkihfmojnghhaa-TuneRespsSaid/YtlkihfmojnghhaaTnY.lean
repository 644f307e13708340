/-
  Layer 14: the walks of the laws on queries.
-/
import Derived.Test.YtlkihfmojnghhaaMg46
namespace Go.Proofs.Ytlkihfmojnghhaa
open Go.RowKit
set_option linter.unusedVariables false
set_option linter.unusedSimpArgs false
attribute [local go_sem ↓] ld_addr st_addr bld_addr ld_tk st_tk bld_tk ld_tn st_tn bld_tn
attribute [local go_sem] ldr_addr str_addr ldr_tk str_tk ldr_tn str_tn row?_drewN_eq row?_drew_eq

/-- Parameters and a query boxed, and other parameters in block m. -/
structure TqB (w : World) (t : TN) (q : TK) (us ur : Value) (W : World) : Prop where
  blw : Below w.heap.size w W
  one : ObjAt W w.heap.size (tnC t).toArray 23
  two : TkAt W (w.heap.size + 1) q us ur
theorem TqB.keep {w : World} {t : TN} {q : TK} {us ur : Value} (W W' : World) (h : TqB w t q us ur W) (hb : Below W.heap.size W W') : TqB w t q us ur W' := ⟨bstep h.blw hb, obj_keep h.one hb, h.two.below hb⟩
theorem TqB.boxed (w : World) (t : TN) (q : TK) (us ur : Value) (ho : adOk q.g) : TqB w t q us ur ((w.alloc (.cells (tnC t).toArray 23)).alloc (.cells (tkC q us ur).toArray 35)) := by
  have h := Bx.made w (tnC t).toArray 23 (tkC q us ur).toArray 35
  exact ⟨h.blw, h.one, h.two, ho⟩
def TqU (w : World) (m : Nat) (t : TN) (q : TK) (us ur : Value) (u : TN) (W : World) : Prop := TqB w t q us ur W ∧ ObjAt W m (tnC u).toArray 23
theorem TqU.keep {w : World} {m : Nat} {t : TN} {q : TK} {us ur : Value} {u : TN} (W W' : World) (h : TqU w m t q us ur u W) (hb : Below W.heap.size W W') : TqU w m t q us ur u W' := ⟨TqB.keep _ _ h.1 hb, obj_keep h.2 hb⟩
theorem TqU.new {w W : World} {t : TN} {q : TK} {us ur : Value} (h : TqB w t q us ur W) (u : TN) : TqU w W.heap.size t q us ur u (aggW (W.alloc (.cells #[.int .i64 0, .int .i64 0, .int .i64 0, .int .i64 0, .int .i64 0] 23)) W.heap.size (tnC u)) := ⟨TqB.keep _ _ h (newBlw W _ _), newObj W _ _ rfl (tn_one u)⟩
set_option maxRecDepth 100000 in
set_option maxHeartbeats 4000000 in
theorem tadopts_any (t : TN) (q : TK) (us ur : Value) (ho : adOk q.g) (w : World) : Calls Try.prog 4 #[.agg (tnC t).toArray, .agg (tkC q us ur).toArray] w fun x w' => x = .returned (.bool true) ∧ Below w.heap.size w w' := by
  have H0 := Lib.hid (TqB.boxed w t q us ur ho)
  have HGR := Lib.hid (fun W => rgood14_any t W)
  have HLV := Lib.hid (fun W => lives14_any W)
  have HR := Lib.hid (fun W (h : TqB w t q us ur W) => (⟨tn_row h.one, h.two.row⟩ : row? W w.heap.size 0 5 = some (tnC t) ∧ row? W (w.heap.size + 1) 0 26 = some (tkC q us ur)))
  cases hg : gdN t with
  | false =>
    rw [hg] at HGR
    go_enter Try.func4, Try.ntmps4
    go_upto_region 1 with (fail)
    generalize (w.alloc _).alloc _ = W at H0 ⊢
    obtain ⟨r1, r2⟩ := HR.out _ H0.out
    go_wp2_with (first
      | (go_at_call 8; (with_reducible refine (HGR.out _).mono ?_); rintro x w3 ⟨rfl, hb⟩; replace H0 := Lib.hid (TqB.keep _ _ H0.out hb); clear hb)
      | (go_at_call 9; (with_reducible refine (HLV.out _).mono ?_); rintro x w3 ⟨rfl, hb⟩; replace H0 := Lib.hid (TqB.keep _ _ H0.out hb); clear hb))
    go_ret
    exact ⟨rfl, H0.out.blw⟩
  | true =>
    rw [hg] at HGR
    have HA := Lib.hid (fun W => tadopt_any t q us ur ho hg W)
    have HAR := Lib.hid (fun W => radopt_any t q us ur ho hg W)
    have HGU := Lib.hid (fun W => rgood14_any (adoptN t q) W)
    rw [adoptN_good hg] at HGU
    have hq := fun w0 => eq_tn (adoptN t q) (adoptN t q) w0
    rw [decide_eq_true rfl] at hq
    have hfk := fok_tn (adoptN t q)
    have hfm := fun W => fmade W #[.int .i64 0, .int .i64 0, .int .i64 0, .int .i64 0, .int .i64 0] 23 5 rfl
    have HN := Lib.hid (fun W (h : TqB w t q us ur W) => TqU.new h (adoptN t q))
    clear hg
    generalize adoptN t q = u at *
    have HRU := Lib.hid (fun m W (h : TqU w m t q us ur u W) => (⟨tn_row h.1.one, h.1.two.row, tn_row h.2⟩ : row? W w.heap.size 0 5 = some (tnC t) ∧ row? W (w.heap.size + 1) 0 26 = some (tkC q us ur) ∧ row? W m 0 5 = some (tnC u)))
    go_enter Try.func4, Try.ntmps4
    go_upto_region 1 with (fail)
    generalize (w.alloc _).alloc _ = W at H0 ⊢
    obtain ⟨r1, r2⟩ := HR.out _ H0.out
    go_upto_region 4 with (first
      | (go_at_call 8; (with_reducible refine (HGR.out _).mono ?_); rintro x w3 ⟨rfl, hb⟩; replace H0 := Lib.hid (TqB.keep _ _ H0.out hb); clear hb r1 r2; obtain ⟨r1, r2⟩ := HR.out _ H0.out)
      | (go_at_call 19; (with_reducible refine (HA.out _).mono ?_); rintro x w4 ⟨rfl, hb⟩; replace H0 := Lib.hid (TqB.keep _ _ H0.out hb); clear hb r1 r2; have H1 := Lib.hid (HN.out _ H0.out)))
    generalize aggW (w4.alloc _) w4.heap.size _ = W4 at H1 ⊢
    generalize w4.heap.size = m at H1 ⊢
    clear hfm hfk HN H0
    have f1 : ∀ p : InS (TqU w m t q us ur u), row? p.W w.heap.size 0 5 = some (tnC t) := fun p => (HRU.out _ _ p.h).1
    have f2 : ∀ p : InS (TqU w m t q us ur u), row? p.W (w.heap.size + 1) 0 26 = some (tkC q us ur) := fun p => (HRU.out _ _ p.h).2.1
    have f3 : ∀ p : InS (TqU w m t q us ur u), row? p.W m 0 5 = some (tnC u) := fun p => (HRU.out _ _ p.h).2.2
    have hne : Nonempty (InS (TqU w m t q us ur u)) := ⟨⟨_, H1.out⟩⟩
    refine wp_region_inS (TqU w m t q us ur u) (by kernel_rfl) (by kernel_rfl) (TqU.keep _ _ H1.out (bdrewN (Below.refl _ _) 1)) ?_
    repeat (go_big_quiet_step (first
      | (go_at_call 20; with_reducible exact Calls.inS TqU.keep _ (fun W _ => HAR.out W))
      | (go_at_call 8; with_reducible exact Calls.inS TqU.keep _ (fun W _ => HGU.out W))
      | (go_at_call 9; with_reducible exact Calls.inS TqU.keep _ (fun W _ => HLV.out W))))
    refine wpQuiet_nil ?_
    rintro _ ⟨⟨W2, hS2⟩, rfl⟩
    have H2 := Lib.hid hS2
    clear hS2 hne f1 f2 f3
    go_wp2
    go_ret
    exact ⟨rfl, H2.out.1.blw⟩
/-- Parameters boxed, and a talk in block m. -/
def TkU (w : World) (m : Nat) (t : TN) (q : TK) (W : World) : Prop := TnB w w.heap.size t W ∧ TkAt W m q (.slice none 0 0) (.slice none 0 0)
theorem TkU.keep {w : World} {m : Nat} {t : TN} {q : TK} (W W' : World) (h : TkU w m t q W) (hb : Below W.heap.size W W') : TkU w m t q W' := ⟨TnB.keep _ _ h.1 hb, h.2.below hb⟩
theorem TkU.new {w W : World} {t : TN} (h : TnB w w.heap.size t W) (q : TK) (ho : adOk q.g) : TkU w W.heap.size t q (aggW (W.alloc (.cells #[.bool false, .int .i64 0, .int .i64 0, .int .i64 0, .bool false, .int .u8 0, .int .u8 0, .int .u8 0, .int .u8 0, .int .u8 0, .int .u8 0, .int .u8 0, .int .u8 0, .int .u8 0, .int .u8 0, .int .u8 0, .int .u8 0, .int .u8 0, .int .u8 0, .int .u8 0, .int .u8 0, .bool false, .int .i64 0, .int .i64 0, .slice none 0 0, .slice none 0 0] 35)) W.heap.size (tkC q (.slice none 0 0) (.slice none 0 0))) := by
  have h1 : (tkC q (.slice none 0 0) (.slice none 0 0)).length = 26 := tkC_length ho _ _
  exact ⟨TnB.keep _ _ h (newBlw W _ _), newObj W _ _ (by rw [h1]; rfl) (tkC_one rfl rfl), ho⟩
theorem queryT_ok (t : TN) (v6 : Bool) (n : Int) : (queryT t v6 n).ok ∧ (queryT t v6 n).src = [] ∧ (queryT t v6 n).rcs = [] := ⟨⟨rfl, fun a h => (by cases h), fun r h => (by cases h)⟩, rfl, rfl⟩
set_option maxRecDepth 100000 in
set_option maxHeartbeats 4000000 in
theorem tqueries_any (t : TN) (v6 : Bool) (n : Int) (w : World) : Calls Try.prog 5 #[.agg (tnC t).toArray, .bool v6, .int .i64 n] w fun x w' => x = .returned (.bool true) ∧ Below w.heap.size w w' := by
  have H0 := Lib.hid (TnB.boxed w t)
  have HGR := Lib.hid (fun W => rgood14_any t W)
  have HLV := Lib.hid (fun W => lives14_any W)
  have HR := Lib.hid (fun W (h : TnB w w.heap.size t W) => h.row)
  cases hg : gdN t with
  | false =>
    rw [hg] at HGR
    go_enter Try.func5, Try.ntmps5
    go_upto_region 1 with (fail)
    generalize w.alloc _ = W at H0 ⊢
    have r := HR.out _ H0.out
    go_wp2_with (first
      | (go_at_call 8; (with_reducible refine (HGR.out _).mono ?_); rintro x w3 ⟨rfl, hb⟩; replace H0 := Lib.hid (TnB.keep _ _ H0.out hb); clear hb)
      | (go_at_call 9; (with_reducible refine (HLV.out _).mono ?_); rintro x w3 ⟨rfl, hb⟩; replace H0 := Lib.hid (TnB.keep _ _ H0.out hb); clear hb))
    go_ret
    exact ⟨rfl, H0.out.1⟩
  | true =>
    rw [hg] at HGR
    obtain ⟨hok, hsr, hrc⟩ := queryT_ok t v6 n
    obtain ⟨v1, v2⟩ := verQ_in v6 n
    have hgd : gdT (queryT t v6 n) = true := queryV_good hg v6 _ v1 v2
    have hrs : respQ (queryT t v6 n) ≤ t.resp ∨ (v6 = false ∧ (queryT t v6 n).ver = 1) := queryV_resp hg v6 _ v1 v2
    obtain ⟨b1, b2⟩ := respQ_bound hgd rfl
    have HQ := Lib.hid (fun W => tquery_any t v6 n hg W)
    have HQR := Lib.hid (fun W => rqry14_any t v6 n hg W)
    have hz1 : ∀ W, Ads W (.slice none 0 0) (queryT t v6 n).src := fun W => by rw [hsr]; exact Ads.nil W
    have hz2 : ∀ W, Rcs W (.slice none 0 0) (queryT t v6 n).rcs := fun W => by rw [hrc]; exact Rcs.nil W
    have HTK := Lib.hid (fun W => rtalk_all (queryT t v6 n) (.slice none 0 0) (.slice none 0 0) W hok (hz1 W) (hz2 W))
    rw [hgd] at HTK
    have HSM : Hid (∀ W, Calls Try.prog 22 #[.agg (tkC (queryT t v6 n) (.slice none 0 0) (.slice none 0 0)).toArray, .agg (tkC (queryT t v6 n) (.slice none 0 0) (.slice none 0 0)).toArray] W fun x w' => x = .returned (.bool true) ∧ Below W.heap.size W w') := Lib.hid fun W => by
      have := same_any _ _ (queryT t v6 n) (queryT t v6 n) W ⟨hok.1, _, _, rfl, hz1 W, hz2 W⟩ ⟨hok.1, _, _, rfl, hz1 W, hz2 W⟩
      rwa [decide_eq_true rfl] at this
    have HRP := Lib.hid (fun W => tresp_any (queryT t v6 n) (.slice none 0 0) (.slice none 0 0) W hok.1 ⟨b1, b2⟩)
    have HRR := Lib.hid (fun W => rresp_any (queryT t v6 n) (.slice none 0 0) (.slice none 0 0) W hok.1 (fun _ => ⟨b1, b2⟩))
    have hfk : fok (tkC (queryT t v6 n) (.slice none 0 0) (.slice none 0 0)).toArray 26 = true := fok_tk hok.1 rfl rfl
    have hfm := fun W => fmade W #[.bool false, .int .i64 0, .int .i64 0, .int .i64 0, .bool false, .int .u8 0, .int .u8 0, .int .u8 0, .int .u8 0, .int .u8 0, .int .u8 0, .int .u8 0, .int .u8 0, .int .u8 0, .int .u8 0, .int .u8 0, .int .u8 0, .int .u8 0, .int .u8 0, .int .u8 0, .int .u8 0, .bool false, .int .i64 0, .int .i64 0, .slice none 0 0, .slice none 0 0] 35 26 rfl
    have HN := Lib.hid (fun W (h : TnB w w.heap.size t W) => TkU.new h (queryT t v6 n) hok.1)
    clear hg hgd b1 b2 hz1 hz2 v1 v2 hok hsr hrc
    generalize queryT t v6 n = q at *
    have HRU := Lib.hid (fun m W (h : TkU w m t q W) => (⟨h.1.row, h.2.row, (tn_c h.1.2).2.2.1, h.2.ver⟩ : row? W w.heap.size 0 5 = some (tnC t) ∧ row? W m 0 26 = some (tkC q (.slice none 0 0) (.slice none 0 0)) ∧ W.cell? ⟨w.heap.size, 2, none⟩ = some (.int .i64 t.resp) ∧ W.cell? ⟨m, 1, none⟩ = some (.int .i64 q.ver)))
    generalize respQ q = rq at *
    generalize t.resp = tp at *
    generalize q.ver = qv at *
    have z1 : ∀ z : Int, (z == z) = true := fun z => by simp
    go_enter Try.func5, Try.ntmps5
    go_upto_region 1 with (fail)
    generalize w.alloc _ = W at H0 ⊢
    have r := HR.out _ H0.out
    go_upto_region 4 with (first
      | (go_at_call 8; (with_reducible refine (HGR.out _).mono ?_); rintro x w3 ⟨rfl, hb⟩; replace H0 := Lib.hid (TnB.keep _ _ H0.out hb); clear hb r; have r := HR.out _ H0.out)
      | (go_at_call 21; (with_reducible refine (HQ.out _).mono ?_); rintro x w4 ⟨rfl, hb⟩; replace H0 := Lib.hid (TnB.keep _ _ H0.out hb); clear hb r; have H1 := Lib.hid (HN.out _ H0.out)))
    generalize aggW (w4.alloc _) w4.heap.size _ = W4 at H1 ⊢
    generalize w4.heap.size = m at H1 ⊢
    clear hfm hfk HN H0
    have f1 : ∀ p : InS (TkU w m t q), row? p.W w.heap.size 0 5 = some (tnC t) := fun p => (HRU.out _ _ p.h).1
    have f2 : ∀ p : InS (TkU w m t q), row? p.W m 0 26 = some (tkC q (.slice none 0 0) (.slice none 0 0)) := fun p => (HRU.out _ _ p.h).2.1
    have hne : Nonempty (InS (TkU w m t q)) := ⟨⟨_, H1.out⟩⟩
    refine wp_region_inS (TkU w m t q) (by kernel_rfl) (by kernel_rfl) (TkU.keep _ _ H1.out (bdrewN (Below.refl _ _) 1)) ?_
    repeat (go_big_quiet_step (first
      | (go_at_call 23; with_reducible exact Calls.inS TkU.keep _ (fun W _ => HQR.out W))
      | (go_at_call 22; with_reducible exact Calls.inS TkU.keep _ (fun W _ => HSM.out W))
      | (go_at_call 24; with_reducible exact Calls.inS TkU.keep _ (fun W _ => HTK.out W))))
    refine wpQuiet_nil ?_
    rintro _ ⟨⟨W2, hS2⟩, rfl⟩
    have H2 := Lib.hid hS2
    clear hS2 hne f1 f2
    obtain ⟨r1, r2, r3, r4⟩ := HRU.out _ _ H2.out
    rcases hrs with h | ⟨rfl, h⟩
    · have hd : decide (rq ≤ tp) = true := decide_eq_true h
      go_wp2_with (first
        | (go_at_call 25; (with_reducible refine (HRP.out _).mono ?_); rintro x w5 ⟨rfl, hb⟩; replace H2 := Lib.hid (TkU.keep _ _ H2.out hb); clear hb r1 r2 r3 r4; obtain ⟨r1, r2, r3, r4⟩ := HRU.out _ _ H2.out)
        | (go_at_call 26; (with_reducible refine (HRR.out _).mono ?_); rintro x w5 ⟨rfl, hb⟩; replace H2 := Lib.hid (TkU.keep _ _ H2.out hb); clear hb r1 r2 r3 r4; obtain ⟨r1, r2, r3, r4⟩ := HRU.out _ _ H2.out)
        | (go_at_call 9; (with_reducible refine (HLV.out _).mono ?_); rintro x w5 ⟨rfl, hb⟩; replace H2 := Lib.hid (TkU.keep _ _ H2.out hb); clear hb r1 r2 r3 r4; obtain ⟨r1, r2, r3, r4⟩ := HRU.out _ _ H2.out))
      go_ret
      exact ⟨rfl, H2.out.1.1⟩
    · subst h
      by_cases h : rq ≤ tp
      · have hd : decide (rq ≤ tp) = true := decide_eq_true h
        go_wp2_with (first
          | (go_at_call 25; (with_reducible refine (HRP.out _).mono ?_); rintro x w5 ⟨rfl, hb⟩; replace H2 := Lib.hid (TkU.keep _ _ H2.out hb); clear hb r1 r2 r3 r4; obtain ⟨r1, r2, r3, r4⟩ := HRU.out _ _ H2.out)
          | (go_at_call 26; (with_reducible refine (HRR.out _).mono ?_); rintro x w5 ⟨rfl, hb⟩; replace H2 := Lib.hid (TkU.keep _ _ H2.out hb); clear hb r1 r2 r3 r4; obtain ⟨r1, r2, r3, r4⟩ := HRU.out _ _ H2.out)
          | (go_at_call 9; (with_reducible refine (HLV.out _).mono ?_); rintro x w5 ⟨rfl, hb⟩; replace H2 := Lib.hid (TkU.keep _ _ H2.out hb); clear hb r1 r2 r3 r4; obtain ⟨r1, r2, r3, r4⟩ := HRU.out _ _ H2.out))
        go_ret
        exact ⟨rfl, H2.out.1.1⟩
      · have hd : decide (rq ≤ tp) = false := decide_eq_false h
        go_wp2_with (first
          | (go_at_call 25; (with_reducible refine (HRP.out _).mono ?_); rintro x w5 ⟨rfl, hb⟩; replace H2 := Lib.hid (TkU.keep _ _ H2.out hb); clear hb r1 r2 r3 r4; obtain ⟨r1, r2, r3, r4⟩ := HRU.out _ _ H2.out)
          | (go_at_call 26; (with_reducible refine (HRR.out _).mono ?_); rintro x w5 ⟨rfl, hb⟩; replace H2 := Lib.hid (TkU.keep _ _ H2.out hb); clear hb r1 r2 r3 r4; obtain ⟨r1, r2, r3, r4⟩ := HRU.out _ _ H2.out)
          | (go_at_call 9; (with_reducible refine (HLV.out _).mono ?_); rintro x w5 ⟨rfl, hb⟩; replace H2 := Lib.hid (TkU.keep _ _ H2.out hb); clear hb r1 r2 r3 r4; obtain ⟨r1, r2, r3, r4⟩ := HRU.out _ _ H2.out))
        go_ret
        exact ⟨rfl, H2.out.1.1⟩
def QkB (w : World) (q : TK) (us ur : Value) (W : World) : Prop := Below w.heap.size w W ∧ TkAt W w.heap.size q us ur
theorem QkB.keep {w : World} {q : TK} {us ur : Value} (W W' : World) (h : QkB w q us ur W) (hb : Below W.heap.size W W') : QkB w q us ur W' := ⟨bstep h.1 hb, h.2.below hb⟩
set_option maxRecDepth 100000 in
set_option maxHeartbeats 4000000 in
theorem tresps_any (q : TK) (us ur : Value) (ho : q.ok) (w : World) (hs : Ads w us q.src) (hr : Rcs w ur q.rcs) : Calls Try.prog 6 #[.agg (tkC q us ur).toArray] w fun x w' => x = .returned (.bool true) ∧ Below w.heap.size w w' := by
  have H0 : Hid (QkB w q us ur (w.alloc (.cells (tkC q us ur).toArray 35))) := Lib.hid ⟨bbox w _, TkAt.made w q us ur ho.1⟩
  have HTK := Lib.hid (fun W (h : QkB w q us ur W) => rtalk_all q us ur W ho (hs.below h.1) (hr.below h.1))
  have HLV := Lib.hid (fun W => lives14_any W)
  have HR := Lib.hid (fun W (h : QkB w q us ur W) => (⟨h.2.row, h.2.kind⟩ : row? W w.heap.size 0 26 = some (tkC q us ur) ∧ W.cell? ⟨w.heap.size, 2, none⟩ = some (.int .i64 q.kind)))
  have hbd : gdT q = true → q.kind = 1 → 0 ≤ q.resp ∧ q.resp ≤ 8388608 := fun h k => respQ_bound h k
  have z1 : ∀ z : Int, (z == z) = true := fun z => by simp
  cases hg : gdT q with
  | false =>
    rw [hg] at HTK
    clear hbd hg hs hr ho
    go_enter Try.func6, Try.ntmps6
    go_upto_region 1 with (fail)
    generalize w.alloc _ = W at H0 ⊢
    obtain ⟨r, c⟩ := HR.out _ H0.out
    go_wp2_with (first
      | (go_at_call 24; (with_reducible refine (HTK.out _ H0.out).mono ?_); rintro x w3 ⟨rfl, hb⟩; replace H0 := Lib.hid (QkB.keep _ _ H0.out hb); clear hb)
      | (go_at_call 9; (with_reducible refine (HLV.out _).mono ?_); rintro x w3 ⟨rfl, hb⟩; replace H0 := Lib.hid (QkB.keep _ _ H0.out hb); clear hb))
    go_ret
    exact ⟨rfl, H0.out.1⟩
  | true =>
    rw [hg] at HTK
    by_cases hk : q.kind = 1
    · obtain ⟨b1, b2⟩ := hbd hg hk
      have HRP := Lib.hid (fun W => tresp_any q us ur W ho.1 ⟨b1, b2⟩)
      have HRR := Lib.hid (fun W => rresp_any q us ur W ho.1 (fun _ => ⟨b1, b2⟩))
      rw [hk] at HR
      clear hbd hg hs hr ho hk b1 b2
      generalize respQ q = rq at *
      go_enter Try.func6, Try.ntmps6
      go_upto_region 1 with (fail)
      generalize w.alloc _ = W at H0 ⊢
      obtain ⟨r, c⟩ := HR.out _ H0.out
      go_upto_region 3 with (go_at_call 24; (with_reducible refine (HTK.out _ H0.out).mono ?_); rintro x w3 ⟨rfl, hb⟩; replace H0 := Lib.hid (QkB.keep _ _ H0.out hb); clear hb r c; obtain ⟨r, c⟩ := HR.out _ H0.out)
      clear r c
      have f1 : ∀ p : InS (QkB w q us ur), row? p.W w.heap.size 0 26 = some (tkC q us ur) := fun p => (HR.out _ p.h).1
      have hne : Nonempty (InS (QkB w q us ur)) := ⟨⟨_, H0.out⟩⟩
      refine wp_region_inS (QkB w q us ur) (by kernel_rfl) (by kernel_rfl) (QkB.keep _ _ H0.out (bdrewN (Below.refl _ _) 1)) ?_
      repeat (go_big_quiet_step (first
        | (go_at_call 25; with_reducible exact Calls.inS QkB.keep _ (fun W _ => HRP.out W))
        | (go_at_call 26; with_reducible exact Calls.inS QkB.keep _ (fun W _ => HRR.out W))
        | (go_at_call 9; with_reducible exact Calls.inS QkB.keep _ (fun W _ => HLV.out W))))
      refine wpQuiet_nil ?_
      rintro _ ⟨⟨W2, hS2⟩, rfl⟩
      have H2 := Lib.hid hS2
      clear hS2 hne f1
      go_wp2
      go_ret
      exact ⟨rfl, H2.out.1⟩
    · have hd : (q.kind != 1) = true := by simpa using hk
      clear hbd hg hs hr ho hk
      generalize q.kind = kk at *
      go_enter Try.func6, Try.ntmps6
      go_upto_region 1 with (fail)
      generalize w.alloc _ = W at H0 ⊢
      obtain ⟨r, c⟩ := HR.out _ H0.out
      go_wp2_with (first
        | (go_at_call 24; (with_reducible refine (HTK.out _ H0.out).mono ?_); rintro x w3 ⟨rfl, hb⟩; replace H0 := Lib.hid (QkB.keep _ _ H0.out hb); clear hb r c; obtain ⟨r, c⟩ := HR.out _ H0.out)
        | (go_at_call 9; (with_reducible refine (HLV.out _).mono ?_); rintro x w3 ⟨rfl, hb⟩; replace H0 := Lib.hid (QkB.keep _ _ H0.out hb); clear hb))
      go_ret
      exact ⟨rfl, H0.out.1⟩
end Go.Proofs.Ytlkihfmojnghhaa
