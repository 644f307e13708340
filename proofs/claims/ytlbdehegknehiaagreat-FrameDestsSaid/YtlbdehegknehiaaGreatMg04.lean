/-
  Texts joined: CodR, TkA, TkB.
-/
import Derived.Test.YtlbdehegknehiaaGreatMg00
import Derived.Test.YtlbdehegknehiaaGreatMg03
import Derived.Test.YtlbdehegknehiaaGreatMg02
/- A part of the proof. -/
namespace Go.Proofs.YtlbdehegknehiaaGreat
set_option maxRecDepth 100000
set_option maxHeartbeats 1000000
open Go.RowKit
set_option linter.unusedVariables false
theorem rval8 (c : Nat) (hc : c ≤ 255) (w : World) : Calls Tryz.prog 187 #[.int .i64 c, .int .i64 16] w fun x w' => x = .returned (.int .i64 (valN c 16)) ∧ w = w' := by
  by_cases h8 : c < 128
  · have hv : valN c 16 = c := valN_small (by omega)
    have hd : (c : Int) < 128 := by omega
    rw [hv]
    go_enter Tryz.func187, Tryz.ntmps187
    go_wp2
    go_ret
    exact ⟨rfl, rfl⟩
  · obtain ⟨q, hq⟩ : ∃ q, q = c / 16 := ⟨_, rfl⟩
    obtain ⟨m, hm⟩ : ∃ m, m = c % 16 := ⟨_, rfl⟩
    obtain ⟨M, hM⟩ : ∃ M, M = m + 16 := ⟨_, rfl⟩
    obtain ⟨K, hK⟩ : ∃ K, K = q % 8 + 3 := ⟨_, rfl⟩
    have hv : valN c 16 = M * 2 ^ K := by unfold valN; rw [if_neg (by omega), ← hq, ← hm, ← hM, ← hK]
    have HV := zh hv
    have hd : ¬ (c : Int) < 128 := by omega
    have t1 : (c : Int) / 16 = (q : Int) := by omega
    have t2 : (c : Int) % 16 = (m : Int) := by omega
    have t3 : (q : Int) % 8 = ((q % 8 : Nat) : Int) := by omega
    have hMb : M ≤ 32 := by omega
    have hKb : K ≤ 10 := by omega
    have w1 : IntKind.i64.wrap ((m : Int) + 16) = (M : Int) := by rw [hM]; simp only [IntKind.wrap_i64]; omega
    have w2 : IntKind.i64.wrap ((q : Int) % 8 + 3) = (K : Int) := by rw [hK]; simp only [IntKind.wrap_i64]; omega
    have e1 : (m : Int) + 16 = (M : Int) := by omega
    have e2 : (q : Int) % 8 + 3 = (K : Int) := by omega
    clear hq hm hM hK hv h8 t3
    go_enter Tryz.func187, Tryz.ntmps187
    go_wp2
    go_loop [5, 6] (fun n k => ∃ j : Nat, j ≤ K ∧ k = .int .i64 ((K - j : Nat) : Int) ∧ n = .int .i64 ((M * 2 ^ j : Nat) : Int)) (fun _ k => (intOf k).toNat)
    case atStart => exact ⟨0, by omega, by simp, by simp⟩
    case round =>
      obtain ⟨j, hj, rfl, rfl⟩ := hrel
      have hp : 2 ^ j ≤ 1024 := Nat.pow_le_pow_right (n := 2) (by omega) (show j ≤ 10 by omega)
      have hle : M * 2 ^ j ≤ 32 * 1024 := Nat.mul_le_mul hMb hp
      obtain ⟨z, hz⟩ : ∃ z, z = M * 2 ^ j := ⟨_, rfl⟩
      rw [← hz] at hle ⊢
      have HZ := zh hz; clear hz hp
      by_cases hlt : j < K
      · have hk : (0 : Int) < ((K - j : Nat) : Int) := by omega
        go_wp2
        go_round
        case rel => exact ⟨j + 1, by omega, by go_num, by rw [Nat.pow_succ, ← Nat.mul_assoc, ← HZ.out]; go_num⟩
        case measure => simp [intOf]; omega
      · obtain rfl : j = K := by omega
        go_wp2
        go_ret
        exact ⟨ret_int (by rw [HV.out, HZ.out]), rfl⟩
theorem rvalue8 (n : Int) (w : World) : Calls Tryz.prog 134 #[.int .i64 n] w fun x w' => x = .returned (.int .i64 (valN (clampN n 255) 16)) ∧ w = w' := by
  have hc := clampN_le n 255
  have HW : Hid (∀ W, Calls Tryz.prog 174 #[.int .i64 n, .int .i64 0, .int .i64 255] W fun e w' => e = .returned (.int .i64 (clampN n 255 : Int)) ∧ W = w') := zh fun W => within_any n 255 W
  generalize clampN n 255 = c at hc HW ⊢
  have HV := zh (fun W => rval8 c hc W)
  clear hc
  go_enter Tryz.func134, Tryz.ntmps134
  go_wp2_with (first
    | (go_at_call 174; (with_reducible refine (HW.out _).mono ?_); rintro x w1 ⟨rfl, rfl⟩)
    | (go_at_call 187; (with_reducible refine (HV.out _).mono ?_); rintro x w1 ⟨rfl, rfl⟩))
  go_ret
  exact ⟨rfl, rfl⟩
theorem rcod8 (n : Int) (w : World) : Calls Tryz.prog 172 #[.int .i64 n, .int .i64 16, .int .i64 255] w fun x w' => x = .returned (.int .i64 (codeN n 16 255)) ∧ w = w' := by
  have HV := zh (fun (c : Nat) (hc : c ≤ 255) W => rval8 c hc W)
  have HU := zh (fun (c : Nat) (h : IsCode n 16 255 c) => codeN_uniq (by omega) (by omega) h)
  generalize codeN n 16 255 = R at HU ⊢
  go_enter Tryz.func172, Tryz.ntmps172
  go_wp2
  go_loop [7, 8, 9] (fun a b z => ∃ lo hi : Nat, a = .int .i64 lo ∧ b = .int .i64 hi ∧ Hid (Halve n 16 255 lo hi)) (fun a b _ => (intOf b).toNat - (intOf a).toNat)
  case atStart => exact ⟨0, 255, rfl, rfl, zh (Halve.start n 16 255)⟩
  case round =>
    obtain ⟨lo, hi, rfl, rfl, HH⟩ := hrel
    have b1 := HH.out.1
    have b2 := HH.out.2.1
    by_cases hlt : lo < hi
    · have hd : (lo : Int) < (hi : Int) := by omega
      obtain ⟨k, hk⟩ : ∃ k, k = (lo + hi + 1) / 2 := ⟨_, rfl⟩
      have t1 : ((lo : Int) + (hi : Int) + 1) / 2 = (k : Int) := by omega
      have t2 : ((lo : Int) + (hi : Int) + 1).tdiv 2 = (k : Int) := by rw [Int.tdiv_eq_ediv_of_nonneg (by omega)]; exact t1
      have k1 : lo < k := by omega
      have k2 : k ≤ hi := by omega
      have HK := zh (HV.out k (by omega))
      clear hk
      by_cases hv : (valN k 16 : Int) ≤ n
      · have H2 := zh (HH.out.up k2 hv)
        generalize valN k 16 = v at hv HK
        go_wp2_with (go_at_call 187; (with_reducible refine (HK.out _).mono ?_); rintro x w1 ⟨rfl, rfl⟩)
        go_round
        case rel => exact ⟨k, hi, rfl, rfl, H2⟩
        case measure => simp [intOf]; omega
      · have H2 := zh (HH.out.down k1 k2 hv)
        generalize valN k 16 = v at hv HK
        go_wp2_with (go_at_call 187; (with_reducible refine (HK.out _).mono ?_); rintro x w1 ⟨rfl, rfl⟩)
        go_round
        case rel => exact ⟨lo, k - 1, rfl, by go_num, H2⟩
        case measure => simp [intOf]; omega
    · have hd : ¬ (lo : Int) < (hi : Int) := by omega
      have HR := zh (HU.out lo (HH.out.done (by omega)))
      go_wp2
      go_ret
      exact ⟨ret_int (by rw [HR.out]), rfl⟩
theorem rcode8 (n : Int) (w : World) : Calls Tryz.prog 98 #[.int .i64 n] w fun x w' => x = .returned (.int .i64 (codeN n 16 255)) ∧ w = w' := by
  have HC := zh (fun W => rcod8 n W)
  generalize codeN n 16 255 = R at HC ⊢
  go_enter Tryz.func98, Tryz.ntmps98
  go_wp2_with (go_at_call 172; (with_reducible refine (HC.out _).mono ?_); rintro x w1 ⟨rfl, rfl⟩)
  go_ret
  exact ⟨rfl, rfl⟩
theorem rval16 (c : Nat) (hc : c ≤ 65535) (w : World) : Calls Tryz.prog 187 #[.int .i64 c, .int .i64 4096] w fun x w' => x = .returned (.int .i64 (valN c 4096)) ∧ w = w' := by
  by_cases h8 : c < 32768
  · have hv : valN c 4096 = c := valN_small (by omega)
    have hd : (c : Int) < 32768 := by omega
    rw [hv]
    go_enter Tryz.func187, Tryz.ntmps187
    go_wp2
    go_ret
    exact ⟨rfl, rfl⟩
  · obtain ⟨q, hq⟩ : ∃ q, q = c / 4096 := ⟨_, rfl⟩
    obtain ⟨m, hm⟩ : ∃ m, m = c % 4096 := ⟨_, rfl⟩
    obtain ⟨M, hM⟩ : ∃ M, M = m + 4096 := ⟨_, rfl⟩
    obtain ⟨K, hK⟩ : ∃ K, K = q % 8 + 3 := ⟨_, rfl⟩
    have hv : valN c 4096 = M * 2 ^ K := by unfold valN; rw [if_neg (by omega), ← hq, ← hm, ← hM, ← hK]
    have HV := zh hv
    have hd : ¬ (c : Int) < 32768 := by omega
    have t1 : (c : Int) / 4096 = (q : Int) := by omega
    have t2 : (c : Int) % 4096 = (m : Int) := by omega
    have t3 : (q : Int) % 8 = ((q % 8 : Nat) : Int) := by omega
    have hMb : M ≤ 8192 := by omega
    have hKb : K ≤ 10 := by omega
    have w1 : IntKind.i64.wrap ((m : Int) + 4096) = (M : Int) := by rw [hM]; simp only [IntKind.wrap_i64]; omega
    have w2 : IntKind.i64.wrap ((q : Int) % 8 + 3) = (K : Int) := by rw [hK]; simp only [IntKind.wrap_i64]; omega
    have e1 : (m : Int) + 4096 = (M : Int) := by omega
    have e2 : (q : Int) % 8 + 3 = (K : Int) := by omega
    clear hq hm hM hK hv h8 t3
    go_enter Tryz.func187, Tryz.ntmps187
    go_wp2
    go_loop [5, 6] (fun n k => ∃ j : Nat, j ≤ K ∧ k = .int .i64 ((K - j : Nat) : Int) ∧ n = .int .i64 ((M * 2 ^ j : Nat) : Int)) (fun _ k => (intOf k).toNat)
    case atStart => exact ⟨0, by omega, by simp, by simp⟩
    case round =>
      obtain ⟨j, hj, rfl, rfl⟩ := hrel
      have hp : 2 ^ j ≤ 1024 := Nat.pow_le_pow_right (n := 2) (by omega) (show j ≤ 10 by omega)
      have hle : M * 2 ^ j ≤ 8192 * 1024 := Nat.mul_le_mul hMb hp
      obtain ⟨z, hz⟩ : ∃ z, z = M * 2 ^ j := ⟨_, rfl⟩
      rw [← hz] at hle ⊢
      have HZ := zh hz; clear hz hp
      by_cases hlt : j < K
      · have hk : (0 : Int) < ((K - j : Nat) : Int) := by omega
        go_wp2
        go_round
        case rel => exact ⟨j + 1, by omega, by go_num, by rw [Nat.pow_succ, ← Nat.mul_assoc, ← HZ.out]; go_num⟩
        case measure => simp [intOf]; omega
      · obtain rfl : j = K := by omega
        go_wp2
        go_ret
        exact ⟨ret_int (by rw [HV.out, HZ.out]), rfl⟩
theorem rvalue16 (n : Int) (w : World) : Calls Tryz.prog 133 #[.int .i64 n] w fun x w' => x = .returned (.int .i64 (valN (clampN n 65535) 4096)) ∧ w = w' := by
  have hc := clampN_le n 65535
  have HW : Hid (∀ W, Calls Tryz.prog 174 #[.int .i64 n, .int .i64 0, .int .i64 65535] W fun e w' => e = .returned (.int .i64 (clampN n 65535 : Int)) ∧ W = w') := zh fun W => within_any n 65535 W
  generalize clampN n 65535 = c at hc HW ⊢
  have HV := zh (fun W => rval16 c hc W)
  clear hc
  go_enter Tryz.func133, Tryz.ntmps133
  go_wp2_with (first
    | (go_at_call 174; (with_reducible refine (HW.out _).mono ?_); rintro x w1 ⟨rfl, rfl⟩)
    | (go_at_call 187; (with_reducible refine (HV.out _).mono ?_); rintro x w1 ⟨rfl, rfl⟩))
  go_ret
  exact ⟨rfl, rfl⟩
theorem rcod16 (n : Int) (w : World) : Calls Tryz.prog 172 #[.int .i64 n, .int .i64 4096, .int .i64 65535] w fun x w' => x = .returned (.int .i64 (codeN n 4096 65535)) ∧ w = w' := by
  have HV := zh (fun (c : Nat) (hc : c ≤ 65535) W => rval16 c hc W)
  have HU := zh (fun (c : Nat) (h : IsCode n 4096 65535 c) => codeN_uniq (by omega) (by omega) h)
  generalize codeN n 4096 65535 = R at HU ⊢
  go_enter Tryz.func172, Tryz.ntmps172
  go_wp2
  go_loop [7, 8, 9] (fun a b z => ∃ lo hi : Nat, a = .int .i64 lo ∧ b = .int .i64 hi ∧ Hid (Halve n 4096 65535 lo hi)) (fun a b _ => (intOf b).toNat - (intOf a).toNat)
  case atStart => exact ⟨0, 65535, rfl, rfl, zh (Halve.start n 4096 65535)⟩
  case round =>
    obtain ⟨lo, hi, rfl, rfl, HH⟩ := hrel
    have b1 := HH.out.1
    have b2 := HH.out.2.1
    by_cases hlt : lo < hi
    · have hd : (lo : Int) < (hi : Int) := by omega
      obtain ⟨k, hk⟩ : ∃ k, k = (lo + hi + 1) / 2 := ⟨_, rfl⟩
      have t1 : ((lo : Int) + (hi : Int) + 1) / 2 = (k : Int) := by omega
      have t2 : ((lo : Int) + (hi : Int) + 1).tdiv 2 = (k : Int) := by rw [Int.tdiv_eq_ediv_of_nonneg (by omega)]; exact t1
      have k1 : lo < k := by omega
      have k2 : k ≤ hi := by omega
      have HK := zh (HV.out k (by omega))
      clear hk
      by_cases hv : (valN k 4096 : Int) ≤ n
      · have H2 := zh (HH.out.up k2 hv)
        generalize valN k 4096 = v at hv HK
        go_wp2_with (go_at_call 187; (with_reducible refine (HK.out _).mono ?_); rintro x w1 ⟨rfl, rfl⟩)
        go_round
        case rel => exact ⟨k, hi, rfl, rfl, H2⟩
        case measure => simp [intOf]; omega
      · have H2 := zh (HH.out.down k1 k2 hv)
        generalize valN k 4096 = v at hv HK
        go_wp2_with (go_at_call 187; (with_reducible refine (HK.out _).mono ?_); rintro x w1 ⟨rfl, rfl⟩)
        go_round
        case rel => exact ⟨lo, k - 1, rfl, by go_num, H2⟩
        case measure => simp [intOf]; omega
    · have hd : ¬ (lo : Int) < (hi : Int) := by omega
      have HR := zh (HU.out lo (HH.out.done (by omega)))
      go_wp2
      go_ret
      exact ⟨ret_int (by rw [HR.out]), rfl⟩
theorem rcode16 (n : Int) (w : World) : Calls Tryz.prog 97 #[.int .i64 n] w fun x w' => x = .returned (.int .i64 (codeN n 4096 65535)) ∧ w = w' := by
  have HC := zh (fun W => rcod16 n W)
  generalize codeN n 4096 65535 = R at HC ⊢
  go_enter Tryz.func97, Tryz.ntmps97
  go_wp2_with (go_at_call 172; (with_reducible refine (HC.out _).mono ?_); rintro x w1 ⟨rfl, rfl⟩)
  go_ret
  exact ⟨rfl, rfl⟩
end Go.Proofs.YtlbdehegknehiaaGreat

/- A part of the proof. -/
namespace Go.Proofs.YtlbdehegknehiaaGreat
set_option maxRecDepth 100000
set_option maxHeartbeats 2000000
open Go.RowKit
set_option linter.unusedVariables false
attribute [local go_sem ↓] ld_addr
attribute [local go_sem] ldr_addr row?_drewN_eq row?_drew_eq
def grp8 (a : AD) : Bool := !a.1 && (goodV a.1 a.2 && grpV a.1 a.2)
def src8 (a : AD) : Bool := !a.1 && goodV a.1 a.2
def srcs8 (l : List AD) : Bool := l.all src8 && decide (l.length < 65)
def ABox (w W : World) (a : AD) : Prop := ObjAt W w.heap.size (adC a).toArray 24 ∧ Below w.heap.size w W
theorem ABox.made (w : World) (a : AD) : ABox w (w.alloc (.cells (adC a).toArray 24)) a := ⟨ObjAt.made w _ _, (Below.refl _ _).alloc (Nat.le_refl _) _⟩
theorem ABox.below {w W W' : World} {a : AD} (h : ABox w W a) (hb : Below W.heap.size W W') : ABox w W' a := ⟨h.1.below hb h.1.lt, bstep h.2 hb⟩
theorem ABox.row {w W : World} {a : AD} (h : ABox w W a) (ho : adOk a) : row? W w.heap.size 0 17 = some (adC a) := obj_row (A := []) (M := adC a) (C := []) (by simpa using h.1) rfl (adC_length ho)
theorem ABox.v {w W : World} {a : AD} (h : ABox w W a) : W.cell? ⟨w.heap.size, 0, none⟩ = some (.bool a.1) := by
  rw [ObjAt.cell h.1, List.getElem?_toArray]; rfl
theorem rgroup8_any (a : AD) (ho : adOk a) (w : World) : Calls Tryz.prog 115 #[.agg (adC a).toArray] w fun x w' => x = .returned (.bool (grp8 a)) ∧ Below w.heap.size w w' := by
  have H0 := zh (ABox.made w a)
  have HG := zh (fun W => rgood_any a.1 a.2 ho W)
  have HH := zh (fun W => rgroup_any a.1 a.2 ho W)
  have HK : Hid (∀ W, ABox w W a → row? W w.heap.size 0 17 = some (adC a) ∧ W.cell? ⟨w.heap.size, 0, none⟩ = some (.bool a.1)) := zh fun W h => ⟨h.row ho, h.v⟩
  obtain ⟨R, hR⟩ : ∃ R, R = grp8 a := ⟨_, rfl⟩
  rw [← hR]
  unfold grp8 at hR
  change Hid (∀ W, Calls Tryz.prog 30 #[.agg (adC a).toArray] W _) at HG
  change Hid (∀ W, Calls Tryz.prog 31 #[.agg (adC a).toArray] W _) at HH
  generalize goodV a.1 a.2 = g at HG hR
  generalize grpV a.1 a.2 = h at HH hR
  go_enter Tryz.func115, Tryz.ntmps115
  go_upto_region 1 with (fail)
  generalize w.alloc (.cells (adC a).toArray 24) = W at H0 ⊢
  obtain ⟨r1, c1⟩ := HK.out _ H0.out
  generalize a.1 = v at c1 hR HK
  have HR := zh hR
  clear hR
  cases v with
  | true =>
    go_wp2
    go_ret
    exact ⟨ret_bool8 (by rw [HR.out]; rfl), H0.out.2⟩
  | false =>
    cases g with
    | false =>
      go_wp2_with (go_at_call 30; (with_reducible refine (HG.out _).mono ?_); rintro x w1 ⟨rfl, hb1⟩; have H1 := zh (H0.out.below hb1); clear hb1)
      go_ret
      exact ⟨ret_bool8 (by rw [HR.out]; rfl), H1.out.2⟩
    | true =>
      go_wp2_with (first
        | (go_at_call 30; (with_reducible refine (HG.out _).mono ?_); rintro x w1 ⟨rfl, hb1⟩; have H1 := zh (H0.out.below hb1); clear hb1 r1 c1; obtain ⟨r1, c1⟩ := HK.out _ H1.out)
        | (go_at_call 31; (with_reducible refine (HH.out _).mono ?_); rintro x w2 ⟨rfl, hb2⟩; have H2 := zh (H1.out.below hb2); clear hb2))
      go_ret
      exact ⟨ret_bool8 (by rw [HR.out]; rfl), H2.out.2⟩
theorem rexact8 (n : Int) (w : World) : Calls Tryz.prog 136 #[.int .i64 n] w fun x w' => x = .returned (.bool (exactN n 16 255)) ∧ w = w' := by
  have HC := zh (fun W => rcode8 n W)
  have hle := codeN_le n 16 255
  have HV : Hid (∀ W, Calls Tryz.prog 134 #[.int .i64 (codeN n 16 255)] W fun x w' => x = .returned (.int .i64 (valN (codeN n 16 255) 16)) ∧ W = w') := zh fun W => by
    have := rvalue8 (codeN n 16 255) W
    rw [show clampN ((codeN n 16 255 : Nat) : Int) 255 = codeN n 16 255 by unfold clampN; split <;> omega] at this
    exact this
  unfold exactN
  generalize valN (codeN n 16 255) 16 = V at HV ⊢
  generalize codeN n 16 255 = R at HC HV hle
  clear hle
  go_enter Tryz.func136, Tryz.ntmps136
  go_wp2_with (first
    | (go_at_call 98; (with_reducible refine (HC.out _).mono ?_); rintro x w1 ⟨rfl, rfl⟩)
    | (go_at_call 134; (with_reducible refine (HV.out _).mono ?_); rintro x w1 ⟨rfl, rfl⟩))
  all_goals
    go_ret
    exact ⟨ret_bool8 (by rw [Bool.eq_iff_iff]; simp; try omega), rfl⟩
theorem all_take_succ {l : List AD} {k : Nat} (h : k < l.length) (f : AD → Bool) : (l.take (k + 1)).all f = ((l.take k).all f && f l[k]) := by
  rw [List.take_succ_eq_append_getElem h, List.all_append]; simp
theorem cells_ad {w : World} {b o : Nat} {a : AD} (h : row? w b o 17 = some (adC a)) : w.cell? ⟨b, o, none⟩ = some (.bool a.1) := by
  obtain ⟨h1, _⟩ := rangeAt_of_row? h
  exact h1 0 _ rfl
theorem rsources8_any (v : Value) (l : List AD) (w : World) (ha : Ads w v l) : Calls Tryz.prog 135 #[v] w fun x w' => x = .returned (.bool (srcs8 l)) ∧ Below w.heap.size w w' := by
  obtain ⟨p, cap, rfl, h1, h2⟩ := ha.len
  by_cases h0 : l.length = 0
  · have e1 : l = [] := List.eq_nil_of_length_eq_zero h0
    subst e1
    go_enter Tryz.func135, Tryz.ntmps135
    go_wp2_with fail
    go_loop [3] (fun i => i = .int .i64 0) (fun _ => 0)
    case atStart => rfl
    case round =>
      subst hrel
      go_wp2
      go_ret
      exact ⟨rfl, Below.refl _ _⟩
  · have na : l ≠ [] := fun h => h0 (by rw [h]; rfl)
    obtain ⟨b, o, cap', e, _, _, hbl, Ra⟩ := ha.parts na
    simp only [Value.slice.injEq] at e
    obtain ⟨rfl, _, rfl⟩ := e
    have OA := zh ha.ok
    have RA := zh Ra
    have HBL := zh hbl
    obtain ⟨n, hn⟩ : ∃ n, n = l.length := ⟨_, rfl⟩
    have hmx : n ≤ maxLen := by omega
    unfold maxLen at hmx
    obtain ⟨R, hR⟩ : ∃ R, R = srcs8 l := ⟨_, rfl⟩
    rw [← hR]
    unfold srcs8 at hR
    rw [← hn] at hR h0 h1 ⊢
    have HR := zh hR
    have HN := zh hn
    clear Ra ha na hn hbl hR h1 h2
    go_enter Tryz.func135, Tryz.ntmps135
    go_wp2_with fail
    go_loopw [3] (fun i wr => ∃ k : Nat, k ≤ n ∧ i = .int .i64 k ∧ Hid ((l.take k).all src8 = true) ∧ Hid (Below w.heap.size w wr)) (fun i _ => n - (intOf i).toNat)
    case atStart => exact ⟨0, by omega, rfl, zh (by simp), zh (Below.refl _ _)⟩
    case round =>
      obtain ⟨k, hk, rfl, HT, HB⟩ := hrel
      by_cases hlt : k < n
      · have g1 : k < l.length := by rw [← HN.out]; exact hlt
        have r1 := row?_below (RA.out k g1) HBL.out HB.out
        have c1 := cells_ad r1
        have HG : Hid (∀ W, Calls Tryz.prog 30 #[.agg (adC l[k]).toArray] W fun x w' => x = .returned (.bool (goodV l[k].1 l[k].2)) ∧ Below W.heap.size W w') := zh fun W => rgood_any l[k].1 l[k].2 (OA.out _ (List.getElem_mem g1)) W
        have HS := zh (all_take_succ g1 src8)
        have HF : Hid (src8 l[k] = false → l.all src8 = false) := zh fun h => by
          rw [← Bool.not_eq_true, List.all_eq_true]
          intro hx
          have := hx _ (List.getElem_mem g1)
          rw [h] at this
          exact absurd this (by simp)
        have hq : src8 l[k] = (!l[k].1 && goodV l[k].1 l[k].2) := rfl
        rw [hq] at HS HF
        clear hq
        have hd : decide ((k : Int) < (n : Int)) = true := by simp; omega
        have hk1 : (k : Int) < (n : Int) := by omega
        have hw1 : IntKind.i64.wrap ((k : Int) + 1) = (k : Int) + 1 := by simp only [IntKind.wrap_i64]; omega
        generalize goodV l[k].1 l[k].2 = g at *
        generalize adC l[k] = A at *
        generalize l[k].1 = v6 at *
        clear g1
        cases v6 with
        | true =>
          have HV := zh (show R = false by rw [HR.out, HF.out rfl]; rfl)
          go_wp2
          go_ret
          exact ⟨ret_bool8 (by rw [HV.out]), HB.out⟩
        | false =>
          cases g with
          | false =>
            have HV := zh (show R = false by rw [HR.out, HF.out rfl]; rfl)
            go_wp2_with (go_at_call 30; (with_reducible refine (HG.out _).mono ?_); rintro x w1 ⟨rfl, hb1⟩; have H1 := zh (bstep HB.out hb1); clear hb1)
            go_ret
            exact ⟨ret_bool8 (by rw [HV.out]), H1.out⟩
          | true =>
            have HV := zh (show (l.take (k + 1)).all src8 = true by rw [HS.out, HT.out]; rfl)
            go_wp2_with (go_at_call 30; (with_reducible refine (HG.out _).mono ?_); rintro x w1 ⟨rfl, hb1⟩; have H1 := zh (bstep HB.out hb1); clear hb1)
            go_roundw
            case rel => exact ⟨k + 1, by omega, by go_num, HV, H1⟩
            case measure => simp [intOf]; omega
      · have hd : ¬ (k : Int) < (n : Int) := by omega
        have HV := zh (show R = decide ((n : Int) < 65) by
          have e := HT.out
          rw [List.take_of_length_le (by rw [← HN.out]; omega)] at e
          rw [HR.out, e, Bool.true_and, Bool.eq_iff_iff]
          simp; omega)
        go_wp2
        go_ret
        exact ⟨ret_bool8 (by rw [HV.out]), HB.out⟩
end Go.Proofs.YtlbdehegknehiaaGreat

/- A part of the proof. -/
namespace Go.Proofs.YtlbdehegknehiaaGreat
open Go.RowKit
set_option linter.unusedVariables false
attribute [local go_sem ↓] ld_addr st_addr bld_addr
attribute [local go_sem] ldr_addr str_addr row?_drewN_eq row?_drew_eq
def adB (a : AD) : List UInt8 := bytesV a.1 a.2
def listL (l : List AD) : List UInt8 := (l.map adB).flatten
theorem adB_le {a : AD} (h : adOk a) : (adB a).length ≤ 16 := by
  unfold adB bytesV
  have : a.2.length = 16 := h
  split <;> simp <;> omega
theorem listL_le {l : List AD} (h : ∀ a ∈ l, adOk a) : (listL l).length ≤ 16 * l.length := by
  induction l with
  | nil => simp [listL]
  | cons a r ih =>
    have h1 := adB_le (h a (by simp))
    have h2 := ih (fun b hb => h b (by simp [hb]))
    unfold listL at h2 ⊢
    simp at h2 ⊢
    omega
theorem listL_succ {l : List AD} {k : Nat} (h : k < l.length) : listL (l.take (k + 1)) = listL (l.take k) ++ adB l[k] := by
  unfold listL
  rw [List.take_succ_eq_append_getElem h, List.map_append, List.flatten_append]
  simp
end Go.Proofs.YtlbdehegknehiaaGreat

