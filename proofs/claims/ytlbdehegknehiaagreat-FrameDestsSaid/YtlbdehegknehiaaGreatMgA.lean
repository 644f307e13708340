/- A part of the proof. -/
import Derived.Test.YtlbdehegknehiaaGreatMg00
import Derived.Test.YtlbdehegknehiaaGreatMg03
import Derived.Test.YtlbdehegknehiaaGreatMg02
import Derived.Test.YtlbdehegknehiaaGreatMg08
import Derived.Test.YtlbdehegknehiaaGreatMg10
import Derived.Test.YtlbdehegknehiaaGreatMg07
import Derived.Test.YtlbdehegknehiaaGreatMdJ
namespace Go.Proofs.YtlbdehegknehiaaGreat
set_option maxRecDepth 100000
set_option maxHeartbeats 4000000
open Go.RowKit
set_option linter.unusedVariables false
set_option linter.unusedSimpArgs false
attribute [local go_sem ↓] ld_addr st_addr bld_addr ld_rec st_rec
attribute [local go_sem] ldr_addr str_addr ldr_rec str_rec
theorem within9_any (n a b : Int) (w : World) : Calls Tryz.prog 123 #[.int .i64 n, .int .i64 a, .int .i64 b] w fun x w' => x = .returned (.bool (decide (a ≤ n ∧ n ≤ b))) ∧ w = w' := by
  obtain ⟨R, hR⟩ : ∃ R, R = decide (a ≤ n ∧ n ≤ b) := ⟨_, rfl⟩
  rw [← hR]
  by_cases h1 : a ≤ n
  · have t1 : decide (a ≤ n) = true := decide_eq_true h1
    by_cases h2 : n ≤ b
    · have t2 : decide (n ≤ b) = true := decide_eq_true h2
      have HV := zh (show R = true by rw [hR]; exact decide_eq_true ⟨h1, h2⟩)
      clear h1 h2 hR
      go_enter Tryz.func123, Tryz.ntmps123
      go_wp2
      go_ret
      exact ⟨ret_bool8 (by rw [HV.out]), rfl⟩
    · have t2 : decide (n ≤ b) = false := decide_eq_false h2
      have HV := zh (show R = false by rw [hR]; exact decide_eq_false (fun h => h2 h.2))
      clear h1 h2 hR
      go_enter Tryz.func123, Tryz.ntmps123
      go_wp2
      go_ret
      exact ⟨ret_bool8 (by rw [HV.out]), rfl⟩
  · have t1 : decide (a ≤ n) = false := decide_eq_false h1
    have HV := zh (show R = false by rw [hR]; exact decide_eq_false (fun h => h1 h.1))
    clear h1 hR
    go_enter Tryz.func123, Tryz.ntmps123
    go_wp2
    go_ret
    exact ⟨ret_bool8 (by rw [HV.out]), rfl⟩
def zero6 : AD := (true, List.replicate 16 0)
theorem zero6_ok : adOk zero6 := rfl
theorem bld_zero6 (w0 : World) : (aggBuild 24 #[(0, .bool true)]).run Tryz.prog w0 = .ok (.agg (adC zero6).toArray) w0 := bld_run _ _ _ (by kernel_rfl) _
theorem zer9_eq (a : AD) : decide (a = zero6) = zer9 a := by
  obtain ⟨v, l⟩ := a
  unfold zer9 zero6 z16
  rw [Bool.eq_iff_iff]
  simp
theorem zero9p_any (a : AD) (ho : adOk a) (w : World) : Calls Tryz.prog 128 #[.agg (adC a).toArray] w fun x w' => x = .returned (.bool (zer9 a)) ∧ Below w.heap.size w w' := by
  have H0 := zh (ABox.made w a)
  have HK : Hid (∀ W, ABox w W a → row? W w.heap.size 0 17 = some (adC a)) := zh fun W h => h.row ho
  have q := fun w0 => eq_ad a zero6 ho zero6_ok w0
  rw [zer9_eq] at q
  have hbz := bld_zero6
  generalize zer9 a = R at *
  go_enter Tryz.func128, Tryz.ntmps128
  go_upto_region 1 with (fail)
  generalize w.alloc (.cells (adC a).toArray 24) = W at H0 ⊢
  have r1 := HK.out _ H0.out
  generalize adC a = A at *
  generalize adC zero6 = B at *
  go_wp2
  go_ret
  exact ⟨rfl, H0.out.2⟩
theorem group9_any (a : AD) (ho : adOk a) (w : World) : Calls Tryz.prog 125 #[.agg (adC a).toArray] w fun x w' => x = .returned (.bool (grp9 a)) ∧ Below w.heap.size w w' := by
  have H0 := zh (ABox.made w a)
  have HH := zh (fun W => group_any a.1 a.2 ho W)
  have HK : Hid (∀ W, ABox w W a → row? W w.heap.size 0 17 = some (adC a) ∧ W.cell? ⟨w.heap.size, 0, none⟩ = some (.bool a.1)) := zh fun W h => ⟨h.row ho, h.v⟩
  obtain ⟨R, hR⟩ : ∃ R, R = grp9 a := ⟨_, rfl⟩
  rw [← hR]
  unfold grp9 at hR
  change Hid (∀ W, Calls Tryz.prog 29 #[.agg (adC a).toArray] W _) at HH
  generalize grpV a.1 a.2 = h at HH hR
  go_enter Tryz.func125, Tryz.ntmps125
  go_upto_region 1 with (fail)
  generalize w.alloc (.cells (adC a).toArray 24) = W at H0 ⊢
  obtain ⟨r1, c1⟩ := HK.out _ H0.out
  generalize a.1 = v at c1 hR HK
  have HR := zh hR
  clear hR
  cases v with
  | false =>
    go_wp2
    go_ret
    exact ⟨ret_bool8 (by rw [HR.out]; rfl), H0.out.2⟩
  | true =>
    go_wp2_with (go_at_call 29; (with_reducible refine (HH.out _).mono ?_); rintro x w2 ⟨rfl, hb2⟩; have H2 := zh (H0.out.below hb2); clear hb2)
    go_ret
    exact ⟨ret_bool8 (by rw [HR.out]; rfl), H2.out.2⟩
def targ9 (a : AD) : Bool := zer9 a || grp9 a
theorem target9_any (a : AD) (ho : adOk a) (w : World) : Calls Tryz.prog 124 #[.agg (adC a).toArray] w fun x w' => x = .returned (.bool (targ9 a)) ∧ Below w.heap.size w w' := by
  have H0 := zh (ABox.made w a)
  have HG := zh (fun W => zero9p_any a ho W)
  have HH := zh (fun W => group9_any a ho W)
  have HK : Hid (∀ W, ABox w W a → row? W w.heap.size 0 17 = some (adC a)) := zh fun W h => h.row ho
  obtain ⟨R, hR⟩ : ∃ R, R = targ9 a := ⟨_, rfl⟩
  rw [← hR]
  unfold targ9 at hR
  generalize zer9 a = g at HG hR
  generalize grp9 a = h at HH hR
  have HR := zh hR
  clear hR
  go_enter Tryz.func124, Tryz.ntmps124
  go_upto_region 1 with (fail)
  generalize w.alloc (.cells (adC a).toArray 24) = W at H0 ⊢
  have r1 := HK.out _ H0.out
  cases g with
  | true =>
    go_wp2_with (go_at_call 128; (with_reducible refine (HG.out _).mono ?_); rintro x w1 ⟨rfl, hb1⟩; have H1 := zh (H0.out.below hb1); clear hb1)
    go_ret
    exact ⟨ret_bool8 (by rw [HR.out]; rfl), H1.out.2⟩
  | false =>
    go_wp2_with (first
      | (go_at_call 128; (with_reducible refine (HG.out _).mono ?_); rintro x w1 ⟨rfl, hb1⟩; have H1 := zh (H0.out.below hb1); clear hb1 r1; have r1 := HK.out _ H1.out)
      | (go_at_call 125; (with_reducible refine (HH.out _).mono ?_); rintro x w2 ⟨rfl, hb2⟩; have H2 := zh (H1.out.below hb2); clear hb2))
    go_ret
    exact ⟨ret_bool8 (by rw [HR.out]; rfl), H2.out.2⟩
def isV6 (a : AD) : Bool := a.1
theorem srcbad9_any (a : AD) (ho : adOk a) (w : World) : Calls Tryz.prog 192 #[.agg (adC a).toArray] w fun x w' => x = .returned (.bool (!isV6 a)) ∧ Below w.heap.size w w' := by
  have H0 := zh (ABox.made w a)
  have HK : Hid (∀ W, ABox w W a → row? W w.heap.size 0 17 = some (adC a) ∧ W.cell? ⟨w.heap.size, 0, none⟩ = some (.bool a.1)) := zh fun W h => ⟨h.row ho, h.v⟩
  obtain ⟨R, hR⟩ : ∃ R, R = !isV6 a := ⟨_, rfl⟩
  rw [← hR]
  unfold isV6 at hR
  go_enter Tryz.func192, Tryz.ntmps192
  go_upto_region 1 with (fail)
  generalize w.alloc (.cells (adC a).toArray 24) = W at H0 ⊢
  obtain ⟨r1, c1⟩ := HK.out _ H0.out
  generalize a.1 = v at c1 hR HK
  have HR := zh hR
  clear hR
  go_wp2
  go_ret
  exact ⟨ret_bool8 (by rw [HR.out]), H0.out.2⟩
theorem index9_any (v : Value) (l : List AD) (w : World) (ha : Ads w v l) : Calls Tryz.prog 212 #[v, .func (.func 192) #[] #[]] w fun x w' => ∃ i : Int, x = .returned (.int .i64 i) ∧ decide (0 ≤ i) = !(l.all isV6) ∧ Below w.heap.size w w' := by
  obtain ⟨p, cap, rfl, h1, h2⟩ := ha.len
  by_cases h0 : l.length = 0
  · have e1 : l = [] := List.eq_nil_of_length_eq_zero h0
    subst e1
    go_enter Tryz.func212, Tryz.ntmps212
    go_wp2_with fail
    go_loop [8] (fun i => i = .int .i64 0) (fun _ => 0)
    case atStart => rfl
    case round =>
      subst hrel
      go_wp2
      go_ret
      exact ⟨-1, rfl, by simp, Below.refl _ _⟩
  · have na : l ≠ [] := fun h => h0 (by rw [h]; rfl)
    obtain ⟨b, o, cap', e, _, _, hbl, Ra⟩ := ha.parts na
    simp only [Value.slice.injEq] at e
    obtain ⟨rfl, _, rfl⟩ := e
    have OA := zh ha.ok
    have RA := zh Ra
    have HBL := zh hbl
    obtain ⟨n, hn⟩ : ∃ n, n = l.length := ⟨_, rfl⟩
    have hmx : n ≤ maxLen := by omega
    unfold maxLen at hmx
    rw [← hn] at h0 h1 ⊢
    have HN := zh hn
    clear Ra ha na hn hbl h1 h2
    go_enter Tryz.func212, Tryz.ntmps212
    go_wp2_with fail
    go_loopw [8] (fun i wr => ∃ k : Nat, k ≤ n ∧ i = .int .i64 k ∧ Hid ((l.take k).all isV6 = true) ∧ Hid (Below w.heap.size w wr)) (fun i _ => n - (intOf i).toNat)
    case atStart => exact ⟨0, by omega, rfl, zh (by simp), zh (Below.refl _ _)⟩
    case round =>
      obtain ⟨k, hk, rfl, HT, HB⟩ := hrel
      by_cases hlt : k < n
      · have g1 : k < l.length := by rw [← HN.out]; exact hlt
        have r1 := row?_below (RA.out k g1) HBL.out HB.out
        have HG := zh (fun W => srcbad9_any l[k] (OA.out _ (List.getElem_mem g1)) W)
        have HS := zh (all_take_succ g1 isV6)
        have HF : Hid (isV6 l[k] = false → l.all isV6 = false) := zh fun h => by
          rw [← Bool.not_eq_true, List.all_eq_true]
          intro hx
          have := hx _ (List.getElem_mem g1)
          rw [h] at this
          exact absurd this (by simp)
        have hd : decide ((k : Int) < (n : Int)) = true := by simp; omega
        have hk1 : (k : Int) < (n : Int) := by omega
        have hw1 : IntKind.i64.wrap ((k : Int) + 1) = (k : Int) + 1 := by simp only [IntKind.wrap_i64]; omega
        generalize isV6 l[k] = g at *
        generalize adC l[k] = A at *
        clear g1
        cases g with
        | false =>
          have HV := zh (show (!(l.all isV6)) = true by rw [HF.out rfl]; rfl)
          go_wp2_with (go_at_call 192; (with_reducible refine (HG.out _).mono ?_); rintro x w1 ⟨rfl, hb1⟩; have H1 := zh (bstep HB.out hb1); clear hb1)
          go_ret
          exact ⟨k, rfl, by rw [HV.out]; simp, H1.out⟩
        | true =>
          have HV := zh (show (l.take (k + 1)).all isV6 = true by rw [HS.out, HT.out]; rfl)
          go_wp2_with (go_at_call 192; (with_reducible refine (HG.out _).mono ?_); rintro x w1 ⟨rfl, hb1⟩; have H1 := zh (bstep HB.out hb1); clear hb1)
          go_roundw
          case rel => exact ⟨k + 1, by omega, by go_num, HV, H1⟩
          case measure => simp [intOf]; omega
      · have hd : ¬ (k : Int) < (n : Int) := by omega
        have HV := zh (show (!(l.all isV6)) = false by
          have e := HT.out
          rw [List.take_of_length_le (by rw [← HN.out]; omega)] at e
          rw [e]; rfl)
        go_wp2
        go_ret
        exact ⟨-1, rfl, by rw [HV.out]; rfl, HB.out⟩
theorem contains9_any (v : Value) (l : List AD) (w : World) (ha : Ads w v l) : Calls Tryz.prog 181 #[v, .func (.func 192) #[] #[]] w fun x w' => x = .returned (.bool (!(l.all isV6))) ∧ Below w.heap.size w w' := by
  have HC := zh (index9_any v l w ha)
  obtain ⟨p, cap, rfl, h1, h2⟩ := ha.len
  clear ha
  generalize (!(l.all isV6)) = R at *
  go_enter Tryz.func181, Tryz.ntmps181
  go_wp2_with (go_at_call 212; refine HC.out.mono ?_; rintro x w1 ⟨i, rfl, hi, hb1⟩; have HB := zh hb1; clear hb1)
  go_ret
  exact ⟨ret_bool8 (by rw [← hi]), HB.out⟩
theorem six9_any (v : Value) (l : List AD) (w : World) (ha : Ads w v l) : Calls Tryz.prog 148 #[v] w fun x w' => x = .returned (.bool (l.all isV6)) ∧ Below w.heap.size w w' := by
  have HC := zh (contains9_any v l w ha)
  obtain ⟨p, cap, rfl, h1, h2⟩ := ha.len
  clear ha
  generalize l.all isV6 = R at *
  go_enter Tryz.func148, Tryz.ntmps148
  go_wp2_with (go_at_call 181; refine HC.out.mono ?_; rintro x w1 ⟨rfl, hb1⟩; have HB := zh hb1; clear hb1)
  go_ret
  exact ⟨ret_bool8 (by simp), HB.out⟩
theorem srcs9_v6 (l : List AD) : srcs9 l = (l.all isV6 && decide (l.length < 65)) := rfl
theorem sources9_any (v : Value) (l : List AD) (w : World) (ha : Ads w v l) : Calls Tryz.prog 127 #[v] w fun x w' => x = .returned (.bool (srcs9 l)) ∧ Below w.heap.size w w' := by
  have HC := zh (six9_any v l w ha)
  obtain ⟨p, cap, rfl, h1, h2⟩ := ha.len
  have hmx : l.length ≤ maxLen := by omega
  unfold maxLen at hmx
  obtain ⟨R, hR⟩ : ∃ R, R = srcs9 l := ⟨_, rfl⟩
  rw [← hR]
  rw [srcs9_v6] at hR
  generalize l.all isV6 = g at *
  clear ha h1 h2
  obtain ⟨n, hn⟩ : ∃ n, n = l.length := ⟨_, rfl⟩
  rw [← hn] at hR HC hmx ⊢
  clear hn
  by_cases hl : n ≤ 64
  · have t1 : decide ((n : Int) ≤ 64) = true := decide_eq_true (by omega)
    have HV := zh (show R = g by rw [hR, decide_eq_true (show n < 65 by omega), Bool.and_true])
    clear hR hl
    go_enter Tryz.func127, Tryz.ntmps127
    go_wp2_with (go_at_call 148; refine HC.out.mono ?_; rintro x w1 ⟨rfl, hb1⟩; have HB := zh hb1; clear hb1)
    go_ret
    exact ⟨ret_bool8 (by rw [HV.out]), HB.out⟩
  · have t1 : decide ((n : Int) ≤ 64) = false := decide_eq_false (by omega)
    have HV := zh (show R = false by rw [hR, decide_eq_false (show ¬ n < 65 by omega), Bool.and_false])
    clear hR hl
    go_enter Tryz.func127, Tryz.ntmps127
    go_wp2
    go_ret
    exact ⟨ret_bool8 (by rw [HV.out]), Below.refl _ _⟩
def RBm (w W : World) (r : RC) (u : Value) : Prop := RcU W w.heap.size 0 r u ∧ Below w.heap.size w W
theorem RBm.below {w W W' : World} {r : RC} {u : Value} (h : RBm w W r u) (hb : Below W.heap.size W W') : RBm w W' r u := ⟨h.1.below hb, bstep h.2 hb⟩
theorem RBm.made (w : World) (r : RC) (u : Value) (ho : adOk r.g) (ha : Ads w u r.src) : RBm w (w.alloc (.cells (rcC r u).toArray 109)) r u := by
  have hb : Below w.heap.size w (w.alloc (.cells (rcC r u).toArray 109)) := (Below.refl _ _).alloc (Nat.le_refl _) _
  refine ⟨⟨ho, by simp, ?_, ha.below hb⟩, hb⟩
  exact obj_rowk (A := []) (M := rcC r u) (C := []) (by simpa using ObjAt.made w (rcC r u).toArray 109) rfl (rcC_length ho u)
theorem record9_any (r : RC) (u : Value) (w : World) (ho : adOk r.g) (ha : Ads w u r.src) : Calls Tryz.prog 186 #[.agg (rcC r u).toArray] w fun x w' => x = .returned (.bool (rcOk9 r)) ∧ Below w.heap.size w w' := by
  have H0 := zh (RBm.made w r u ho ha)
  have HK : Hid (∀ W, RBm w W r u → RcC W w.heap.size 0 r u) := zh fun W h => h.1.cells
  have HW := zh (fun W => within9_any r.kind 1 6 W)
  have HG := zh (fun W => group9_any r.g ho W)
  obtain ⟨R, hR⟩ : ∃ R, R = rcOk9 r := ⟨_, rfl⟩
  rw [← hR]
  unfold rcOk9 at hR
  generalize decide (1 ≤ r.kind ∧ r.kind ≤ 6) = b at HW hR
  generalize grp9 r.g = g at HG hR
  have HR := zh hR
  clear hR ha ho
  go_enter Tryz.func186, Tryz.ntmps186
  go_upto_region 1 with (fail)
  generalize w.alloc (.cells (rcC r u).toArray 109) = W at H0 ⊢
  obtain ⟨d0, d1, d2⟩ := HK.out _ H0.out
  cases b with
  | false =>
    go_wp2_with (go_at_call 123; (with_reducible refine (HW.out _).mono ?_); rintro x w1 ⟨rfl, rfl⟩)
    go_ret
    exact ⟨ret_bool8 (by rw [HR.out]; rfl), H0.out.2⟩
  | true =>
    go_wp2_with (first
      | (go_at_call 123; (with_reducible refine (HW.out _).mono ?_); rintro x w1 ⟨rfl, rfl⟩)
      | (go_at_call 125; (with_reducible refine (HG.out _).mono ?_); rintro x w2 ⟨rfl, hb2⟩; have H2 := zh (H0.out.below hb2); clear hb2))
    go_ret
    exact ⟨ret_bool8 (by rw [HR.out]; rfl), H2.out.2⟩
def recs9 (l : List RC) : Bool := decide (l.length < 65) && (l.all recOk9 && decide (sizeR9 l < 1401))
theorem records9_any (v : Value) (l : List RC) (w : World) (hr : Rcs w v l) : Calls Tryz.prog 129 #[v] w fun x w' => x = .returned (.bool (recs9 l)) ∧ Below w.heap.size w w' := by
  obtain ⟨p, cap, rfl, h1, h2⟩ := hr.len
  obtain ⟨R, hR⟩ : ∃ R, R = recs9 l := ⟨_, rfl⟩
  rw [← hR]
  unfold recs9 at hR
  obtain ⟨n, hn⟩ : ∃ n, n = l.length := ⟨_, rfl⟩
  have hmx : n ≤ maxLen := by omega
  unfold maxLen at hmx
  rw [← hn] at hR ⊢
  by_cases hl : n ≤ 64
  · have t64 : decide (64 < (n : Int)) = false := decide_eq_false (by omega)
    have HRV := zh (show R = (l.all recOk9 && decide (sizeR9 l < 1401)) by rw [hR, decide_eq_true (show n < 65 by omega), Bool.true_and])
    clear hR
    have HN := zh hn
    by_cases h0 : n = 0
    · have e1 : l = [] := List.eq_nil_of_length_eq_zero (by omega)
      subst e1 h0
      clear hmx h1 h2 hr HN hn hl
      go_enter Tryz.func129, Tryz.ntmps129
      go_wp2_with fail
      go_loop [3, 11] (fun z i => z = .int .i64 8 ∧ i = .int .i64 0) (fun _ _ => 0)
      case atStart => exact ⟨rfl, rfl⟩
      case round =>
        obtain ⟨rfl, rfl⟩ := hrel
        go_wp2
        go_ret
        exact ⟨ret_bool8 (by rw [HRV.out]; rfl), Below.refl _ _⟩
    · obtain ⟨rb, ro, cr', er, _, _, Ra⟩ := hr.parts (fun h => h0 (by rw [hn, h]; rfl))
      simp only [Value.slice.injEq] at er
      obtain ⟨rfl, -, hcc⟩ := er
      subst hcc
      have RA := zh Ra
      have HRC : Hid (∀ (W1 : World) (bb : Nat) (x : RC) (u : Value), RcU W1 bb 0 x u → row? W1 bb 0 19 = some (rcC x u) ∧ RcC W1 bb 0 x u) := zh fun W1 bb x u h => ⟨h.2.2.1, h.cells⟩
      clear Ra hr hn h1 h2
      go_enter Tryz.func129, Tryz.ntmps129
      go_wp2_with fail
      go_loopw [3, 11] (fun z i wr => ∃ k : Nat, k ≤ n ∧ i = .int .i64 k ∧ z = .int .i64 ((sizeR9 (l.take k) : Nat) : Int) ∧ Hid ((l.take k).all recOk9 = true) ∧ Hid (Below w.heap.size w wr)) (fun _ i _ => n - (intOf i).toNat)
      case atStart => exact ⟨0, by omega, rfl, rfl, zh (by simp), zh (Below.refl _ _)⟩
      case round =>
        obtain ⟨k, hk, rfl, rfl, HA, HB⟩ := hrel
        have HLE := zh (sizeR9_le HA.out)
        by_cases hlt : k < n
        · have g1 : k < l.length := by rw [← HN.out]; exact hlt
          obtain ⟨u, hu⟩ := (RA.out k g1).u
          have hu2 := hu.below HB.out
          have r1 := hu2.2.2.1
          obtain ⟨ho, hlt2, _, ha⟩ := hu2
          clear hu
          obtain ⟨pp, cc, eu, hlu, hlm⟩ := ha.len
          subst eu
          have hmy : l[k].src.length ≤ maxLen := by omega
          unfold maxLen at hmy
          have HBX := zh (RcU.boxed (cs := zz19) ho ha rfl)
          have hfok := fok_rec ho ha.one
          have hfm := free_made wr zz19 109 19 (by simp)
          have HGr := zh (fun W (h : RcU W wr.heap.size 0 l[k] (.slice pp l[k].src.length cc)) => record9_any l[k] (.slice pp l[k].src.length cc) W h.1 h.2.2.2)
          have HSr := zh (fun W (h : RcU W wr.heap.size 0 l[k] (.slice pp l[k].src.length cc)) => sources9_any (.slice pp l[k].src.length cc) l[k].src W h.2.2.2)
          have HS1 := zh (rcs_take_succ g1 recOk9)
          have HS2 := zh (sizeR9_succ g1)
          have HF : Hid (recOk9 l[k] = false → l.all recOk9 = false) := zh fun h => by
            rw [← Bool.not_eq_true, List.all_eq_true]
            intro hx
            have := hx _ (List.getElem_mem g1)
            rw [h] at this
            exact absurd this (by simp)
          have HOK : Hid (recOk9 l[k] = (rcOk9 l[k] && srcs9 l[k].src)) := zh rfl
          have hd : decide ((k : Int) < (n : Int)) = true := decide_eq_true (by omega)
          have hk1 : (k : Int) < (n : Int) := by omega
          have hw1 : IntKind.i64.wrap ((k : Int) + 1) = (k : Int) + 1 := by simp only [IntKind.wrap_i64]; omega
          have hz : sizeR9 (l.take k) ≤ 70000 := by have := HLE.out; rw [List.length_take] at this; omega
          clear ha hlt2 HLE hlu hlm
          generalize l[k] = x at *
          generalize hzz : sizeR9 (l.take k) = z at *
          clear hzz
          have HS3 : Hid (((sizeR9 (l.take (k + 1)) : Nat) : Int) = (z : Int) + (20 + 16 * (x.src.length : Int))) := zh (by rw [HS2.out]; omega)
          have HS64 : Hid (srcs9 x.src = true → x.src.length < 65) := zh srcs9_len
          clear HS2 hmy
          obtain ⟨xk, xg, xs⟩ := x
          simp only at *
          generalize xs.length = m at *
          have HW : Hid (srcs9 xs = true → IntKind.i64.wrap (16 * (m : Int)) = 16 * (m : Int) ∧ IntKind.i64.wrap (20 + 16 * (m : Int)) = 20 + 16 * (m : Int) ∧ IntKind.i64.wrap ((z : Int) + (20 + 16 * (m : Int))) = (z : Int) + (20 + 16 * (m : Int))) := zh (fun h => by
            have := HS64.out h
            simp only [IntKind.wrap_i64]; omega)
          clear HS64
          go_upto_region 7 with (fail)
          generalize aggW (wr.alloc _) wr.heap.size _ = W1 at HBX ⊢
          have H1 := zh (show Below w.heap.size w W1 ∧ RcU W1 wr.heap.size 0 ⟨xk, xg, xs⟩ (.slice pp m cc) from ⟨bstep HB.out HBX.out.2, HBX.out.1⟩)
          have HQ : Hid (∀ (W1 W2 : World), (Below w.heap.size w W1 ∧ RcU W1 wr.heap.size 0 ⟨xk, xg, xs⟩ (.slice pp m cc)) → Below W1.heap.size W1 W2 → (Below w.heap.size w W2 ∧ RcU W2 wr.heap.size 0 ⟨xk, xg, xs⟩ (.slice pp m cc))) := zh fun W1 W2 h hb => ⟨bstep h.1 hb, h.2.below hb⟩
          obtain ⟨dr, d0, d1, d2⟩ := HRC.out _ _ _ _ H1.out.2
          simp only at d0 d1 d2
          clear HBX hfm hfok r1 HB
          cases hgx : rcOk9 ⟨xk, xg, xs⟩ with
          | false =>
            rw [hgx] at HGr HOK
            have HV : Hid (R = false) := zh (by rw [HRV.out, HF.out (by rw [HOK.out]; rfl)]; rfl)
            clear HF HOK HS1 hgx
            go_wp2_with (go_at_call 186; (with_reducible refine (HGr.out _ H1.out.2).mono ?_); rintro x w1 ⟨rfl, hb1⟩; have G1 := zh (HQ.out _ _ H1.out hb1); clear hb1 dr d0 d1 d2; obtain ⟨dr, d0, d1, d2⟩ := HRC.out _ _ _ _ G1.out.2; simp only at d0 d1 d2)
            go_ret
            exact ⟨ret_bool8 (by rw [HV.out]), G1.out.1⟩
          | true =>
            rw [hgx] at HGr HOK
            cases hsx : srcs9 xs with
            | false =>
              rw [hsx] at HSr HOK
              have HV : Hid (R = false) := zh (by rw [HRV.out, HF.out (by rw [HOK.out]; rfl)]; rfl)
              clear HF HOK HS1 hgx hsx
              go_wp2_with (first | (go_at_call 186; (with_reducible refine (HGr.out _ H1.out.2).mono ?_); rintro x w1 ⟨rfl, hb1⟩; have G1 := zh (HQ.out _ _ H1.out hb1); clear hb1 dr d0 d1 d2; obtain ⟨dr, d0, d1, d2⟩ := HRC.out _ _ _ _ G1.out.2; simp only at d0 d1 d2) | (go_at_call 127; (with_reducible refine (HSr.out _ G1.out.2).mono ?_); rintro x w2 ⟨rfl, hb2⟩; have G2 := zh (HQ.out _ _ G1.out hb2); clear hb2 dr d0 d1 d2; obtain ⟨dr, d0, d1, d2⟩ := HRC.out _ _ _ _ G2.out.2; simp only at d0 d1 d2))
              go_ret
              exact ⟨ret_bool8 (by rw [HV.out]), G2.out.1⟩
            | true =>
              rw [hsx] at HSr HOK
              have HA2 : Hid ((l.take (k + 1)).all recOk9 = true) := zh (by rw [HS1.out, HA.out, HOK.out]; rfl)
              obtain ⟨hw2, hw3, hw4⟩ := HW.out hsx
              clear HF HOK HS1 hgx hsx HA HW
              go_wp2_with (first | (go_at_call 186; (with_reducible refine (HGr.out _ H1.out.2).mono ?_); rintro x w1 ⟨rfl, hb1⟩; have G1 := zh (HQ.out _ _ H1.out hb1); clear hb1 dr d0 d1 d2; obtain ⟨dr, d0, d1, d2⟩ := HRC.out _ _ _ _ G1.out.2; simp only at d0 d1 d2) | (go_at_call 127; (with_reducible refine (HSr.out _ G1.out.2).mono ?_); rintro x w2 ⟨rfl, hb2⟩; have G2 := zh (HQ.out _ _ G1.out hb2); clear hb2 dr d0 d1 d2; obtain ⟨dr, d0, d1, d2⟩ := HRC.out _ _ _ _ G2.out.2; simp only at d0 d1 d2))
              go_roundw
              case rel => exact ⟨k + 1, by omega, by go_num, by rw [HS3.out], HA2, zh G2.out.1⟩
              case measure => simp [intOf]; omega
        · have hd : ¬ (k : Int) < (n : Int) := by omega
          have HA2 : Hid (l.all recOk9 = true) := zh (by
            have e := HA.out
            rw [List.take_of_length_le (by rw [← HN.out]; omega)] at e
            exact e)
          have HZ : Hid (sizeR9 (l.take k) = sizeR9 l) := zh (by rw [List.take_of_length_le (by rw [← HN.out]; omega)])
          have HV : Hid (R = decide ((sizeR9 (l.take k) : Int) ≤ 1400)) := zh (by
            rw [HRV.out, HA2.out, HZ.out]
            simp only [Bool.true_and]
            rw [Bool.eq_iff_iff]; simp; omega)
          generalize sizeR9 (l.take k) = z at *
          by_cases hz : (z : Int) ≤ 1400
          · have tz : decide ((z : Int) ≤ 1400) = true := decide_eq_true hz
            rw [tz] at HV
            go_wp2
            go_ret
            exact ⟨ret_bool8 (by rw [HV.out]; try (first | exact tz | exact tz.symm)), HB.out⟩
          · have tz : decide ((z : Int) ≤ 1400) = false := decide_eq_false hz
            rw [tz] at HV
            go_wp2
            go_ret
            exact ⟨ret_bool8 (by rw [HV.out]; try (first | exact tz | exact tz.symm)), HB.out⟩
  · have t64 : decide (64 < (n : Int)) = true := decide_eq_true (by omega)
    have HV := zh (show R = false by rw [hR, decide_eq_false (show ¬ n < 65 by omega), Bool.false_and])
    clear hR hr hn h1 h2 hl
    go_enter Tryz.func129, Tryz.ntmps129
    go_wp2
    go_ret
    exact ⟨ret_bool8 (by rw [HV.out]), Below.refl _ _⟩
end Go.Proofs.YtlbdehegknehiaaGreat
