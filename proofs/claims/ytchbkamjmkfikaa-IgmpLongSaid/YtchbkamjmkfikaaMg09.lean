/-
  Texts joined: CodR, TkA, TkB, Ip.
-/
import Derived.Test.YtchbkamjmkfikaaMg07
import Derived.Test.YtchbkamjmkfikaaMg08
import Derived.Test.YtchbkamjmkfikaaTk
import Derived.Test.YtchbkamjmkfikaaMg05
import Derived.Test.YtchbkamjmkfikaaAgg
import Derived.Test.YtchbkamjmkfikaaMg06
/-
  The contracts of the document's own answers of layer 7: value, Value8, Value16, code, Code8, Code16.
-/
namespace Go.Proofs.Ytchbkamjmkfikaa
open Go.RowKit
set_option linter.unusedVariables false

set_option maxRecDepth 100000 in
set_option maxHeartbeats 1000000 in
theorem rval8 (c : Nat) (hc : c ≤ 255) (w : World) : Calls Try.prog 90 #[.int .i64 c, .int .i64 16] w fun x w' => x = .returned (.int .i64 (valN c 16)) ∧ w = w' := by
  by_cases h8 : c < 128
  · have hv : valN c 16 = c := valN_small (by omega)
    have hd : (c : Int) < 128 := by omega
    rw [hv]
    go_enter Try.func90, Try.ntmps90
    go_wp2
    go_ret
    exact ⟨rfl, rfl⟩
  · obtain ⟨q, hq⟩ : ∃ q, q = c / 16 := ⟨_, rfl⟩
    obtain ⟨m, hm⟩ : ∃ m, m = c % 16 := ⟨_, rfl⟩
    obtain ⟨M, hM⟩ : ∃ M, M = m + 16 := ⟨_, rfl⟩
    obtain ⟨K, hK⟩ : ∃ K, K = q % 8 + 3 := ⟨_, rfl⟩
    have hv : valN c 16 = M * 2 ^ K := by unfold valN; rw [if_neg (by omega), ← hq, ← hm, ← hM, ← hK]
    have HV := Lib.hid hv
    have hd : ¬ (c : Int) < 128 := by omega
    have t1 : (c : Int) / 16 = (q : Int) := by omega
    have t2 : (c : Int) % 16 = (m : Int) := by omega
    have t3 : (q : Int) % 8 = ((q % 8 : Nat) : Int) := by omega
    have hMb : M ≤ 32 := by omega
    have hKb : K ≤ 10 := by omega
    have w1 : IntKind.i64.wrap ((m : Int) + 16) = (M : Int) := by rw [hM]; simp only [IntKind.wrap_i64]; omega
    have w2 : IntKind.i64.wrap ((q : Int) % 8 + 3) = (K : Int) := by rw [hK]; simp only [IntKind.wrap_i64]; omega
    have e1 : (m : Int) + 16 = (M : Int) := by omega
    have e2 : (q : Int) % 8 + 3 = (K : Int) := by omega
    clear hq hm hM hK hv h8 t3
    go_enter Try.func90, Try.ntmps90
    go_wp2
    go_loop [5, 6] (fun n k => ∃ j : Nat, j ≤ K ∧ k = .int .i64 ((K - j : Nat) : Int) ∧ n = .int .i64 ((M * 2 ^ j : Nat) : Int)) (fun _ k => (intOf k).toNat)
    case atStart => exact ⟨0, by omega, by simp, by simp⟩
    case round =>
      obtain ⟨j, hj, rfl, rfl⟩ := hrel
      have hp : 2 ^ j ≤ 1024 := Nat.pow_le_pow_right (n := 2) (by omega) (show j ≤ 10 by omega)
      have hle : M * 2 ^ j ≤ 32 * 1024 := Nat.mul_le_mul hMb hp
      obtain ⟨z, hz⟩ : ∃ z, z = M * 2 ^ j := ⟨_, rfl⟩
      rw [← hz] at hle ⊢
      have HZ := Lib.hid hz; clear hz hp
      by_cases hlt : j < K
      · have hk : (0 : Int) < ((K - j : Nat) : Int) := by omega
        go_wp2
        go_round
        case rel => exact ⟨j + 1, by omega, by go_num, by rw [Nat.pow_succ, ← Nat.mul_assoc, ← HZ.out]; go_num⟩
        case measure => simp [intOf]; omega
      · obtain rfl : j = K := by omega
        go_wp2
        go_ret
        exact ⟨ret_int (by rw [HV.out, HZ.out]), rfl⟩
theorem rvalue8 (n : Int) (w : World) : Calls Try.prog 62 #[.int .i64 n] w fun x w' => x = .returned (.int .i64 (valN (clampN n 255) 16)) ∧ w = w' := by
  have hc := clampN_le n 255
  have HW : Hid (∀ W, Calls Try.prog 91 #[.int .i64 n, .int .i64 0, .int .i64 255] W fun e w' => e = .returned (.int .i64 (clampN n 255 : Int)) ∧ W = w') := Lib.hid fun W => within_any n 255 W
  generalize clampN n 255 = c at hc HW ⊢
  have HV := Lib.hid (fun W => rval8 c hc W)
  clear hc
  go_enter Try.func62, Try.ntmps62
  go_wp2_with (first
    | (go_at_call 91; (with_reducible refine (HW.out _).mono ?_); rintro x w1 ⟨rfl, rfl⟩)
    | (go_at_call 90; (with_reducible refine (HV.out _).mono ?_); rintro x w1 ⟨rfl, rfl⟩))
  go_ret
  exact ⟨rfl, rfl⟩
set_option maxRecDepth 100000 in
set_option maxHeartbeats 1000000 in
theorem rcod8 (n : Int) (w : World) : Calls Try.prog 80 #[.int .i64 n, .int .i64 16, .int .i64 255] w fun x w' => x = .returned (.int .i64 (codeN n 16 255)) ∧ w = w' := by
  have HV := Lib.hid (fun (c : Nat) (hc : c ≤ 255) W => rval8 c hc W)
  have HU := Lib.hid (fun (c : Nat) (h : IsCode n 16 255 c) => codeN_uniq (by omega) (by omega) h)
  generalize codeN n 16 255 = R at HU ⊢
  go_enter Try.func80, Try.ntmps80
  go_wp2
  go_loop [7, 8, 9] (fun a b z => ∃ lo hi : Nat, a = .int .i64 lo ∧ b = .int .i64 hi ∧ Hid (Halve n 16 255 lo hi)) (fun a b _ => (intOf b).toNat - (intOf a).toNat)
  case atStart => exact ⟨0, 255, rfl, rfl, Lib.hid (Halve.start n 16 255)⟩
  case round =>
    obtain ⟨lo, hi, rfl, rfl, HH⟩ := hrel
    have b1 := HH.out.1
    have b2 := HH.out.2.1
    by_cases hlt : lo < hi
    · have hd : (lo : Int) < (hi : Int) := by omega
      obtain ⟨k, hk⟩ : ∃ k, k = (lo + hi + 1) / 2 := ⟨_, rfl⟩
      have t1 : ((lo : Int) + (hi : Int) + 1) / 2 = (k : Int) := by omega
      have t2 : ((lo : Int) + (hi : Int) + 1).tdiv 2 = (k : Int) := by rw [Int.tdiv_eq_ediv_of_nonneg (by omega)]; exact t1
      have k1 : lo < k := by omega
      have k2 : k ≤ hi := by omega
      have HK := Lib.hid (HV.out k (by omega))
      clear hk
      by_cases hv : (valN k 16 : Int) ≤ n
      · have H2 := Lib.hid (HH.out.up k2 hv)
        generalize valN k 16 = v at hv HK
        go_wp2_with (go_at_call 90; (with_reducible refine (HK.out _).mono ?_); rintro x w1 ⟨rfl, rfl⟩)
        go_round
        case rel => exact ⟨k, hi, rfl, rfl, H2⟩
        case measure => simp [intOf]; omega
      · have H2 := Lib.hid (HH.out.down k1 k2 hv)
        generalize valN k 16 = v at hv HK
        go_wp2_with (go_at_call 90; (with_reducible refine (HK.out _).mono ?_); rintro x w1 ⟨rfl, rfl⟩)
        go_round
        case rel => exact ⟨lo, k - 1, rfl, by go_num, H2⟩
        case measure => simp [intOf]; omega
    · have hd : ¬ (lo : Int) < (hi : Int) := by omega
      have HR := Lib.hid (HU.out lo (HH.out.done (by omega)))
      go_wp2
      go_ret
      exact ⟨ret_int (by rw [HR.out]), rfl⟩
theorem rcode8 (n : Int) (w : World) : Calls Try.prog 47 #[.int .i64 n] w fun x w' => x = .returned (.int .i64 (codeN n 16 255)) ∧ w = w' := by
  have HC := Lib.hid (fun W => rcod8 n W)
  generalize codeN n 16 255 = R at HC ⊢
  go_enter Try.func47, Try.ntmps47
  go_wp2_with (go_at_call 80; (with_reducible refine (HC.out _).mono ?_); rintro x w1 ⟨rfl, rfl⟩)
  go_ret
  exact ⟨rfl, rfl⟩

set_option maxRecDepth 100000 in
set_option maxHeartbeats 1000000 in
theorem rval16 (c : Nat) (hc : c ≤ 65535) (w : World) : Calls Try.prog 90 #[.int .i64 c, .int .i64 4096] w fun x w' => x = .returned (.int .i64 (valN c 4096)) ∧ w = w' := by
  by_cases h8 : c < 32768
  · have hv : valN c 4096 = c := valN_small (by omega)
    have hd : (c : Int) < 32768 := by omega
    rw [hv]
    go_enter Try.func90, Try.ntmps90
    go_wp2
    go_ret
    exact ⟨rfl, rfl⟩
  · obtain ⟨q, hq⟩ : ∃ q, q = c / 4096 := ⟨_, rfl⟩
    obtain ⟨m, hm⟩ : ∃ m, m = c % 4096 := ⟨_, rfl⟩
    obtain ⟨M, hM⟩ : ∃ M, M = m + 4096 := ⟨_, rfl⟩
    obtain ⟨K, hK⟩ : ∃ K, K = q % 8 + 3 := ⟨_, rfl⟩
    have hv : valN c 4096 = M * 2 ^ K := by unfold valN; rw [if_neg (by omega), ← hq, ← hm, ← hM, ← hK]
    have HV := Lib.hid hv
    have hd : ¬ (c : Int) < 32768 := by omega
    have t1 : (c : Int) / 4096 = (q : Int) := by omega
    have t2 : (c : Int) % 4096 = (m : Int) := by omega
    have t3 : (q : Int) % 8 = ((q % 8 : Nat) : Int) := by omega
    have hMb : M ≤ 8192 := by omega
    have hKb : K ≤ 10 := by omega
    have w1 : IntKind.i64.wrap ((m : Int) + 4096) = (M : Int) := by rw [hM]; simp only [IntKind.wrap_i64]; omega
    have w2 : IntKind.i64.wrap ((q : Int) % 8 + 3) = (K : Int) := by rw [hK]; simp only [IntKind.wrap_i64]; omega
    have e1 : (m : Int) + 4096 = (M : Int) := by omega
    have e2 : (q : Int) % 8 + 3 = (K : Int) := by omega
    clear hq hm hM hK hv h8 t3
    go_enter Try.func90, Try.ntmps90
    go_wp2
    go_loop [5, 6] (fun n k => ∃ j : Nat, j ≤ K ∧ k = .int .i64 ((K - j : Nat) : Int) ∧ n = .int .i64 ((M * 2 ^ j : Nat) : Int)) (fun _ k => (intOf k).toNat)
    case atStart => exact ⟨0, by omega, by simp, by simp⟩
    case round =>
      obtain ⟨j, hj, rfl, rfl⟩ := hrel
      have hp : 2 ^ j ≤ 1024 := Nat.pow_le_pow_right (n := 2) (by omega) (show j ≤ 10 by omega)
      have hle : M * 2 ^ j ≤ 8192 * 1024 := Nat.mul_le_mul hMb hp
      obtain ⟨z, hz⟩ : ∃ z, z = M * 2 ^ j := ⟨_, rfl⟩
      rw [← hz] at hle ⊢
      have HZ := Lib.hid hz; clear hz hp
      by_cases hlt : j < K
      · have hk : (0 : Int) < ((K - j : Nat) : Int) := by omega
        go_wp2
        go_round
        case rel => exact ⟨j + 1, by omega, by go_num, by rw [Nat.pow_succ, ← Nat.mul_assoc, ← HZ.out]; go_num⟩
        case measure => simp [intOf]; omega
      · obtain rfl : j = K := by omega
        go_wp2
        go_ret
        exact ⟨ret_int (by rw [HV.out, HZ.out]), rfl⟩
set_option maxRecDepth 100000 in
set_option maxHeartbeats 1000000 in
theorem rcod16 (n : Int) (w : World) : Calls Try.prog 80 #[.int .i64 n, .int .i64 4096, .int .i64 65535] w fun x w' => x = .returned (.int .i64 (codeN n 4096 65535)) ∧ w = w' := by
  have HV := Lib.hid (fun (c : Nat) (hc : c ≤ 65535) W => rval16 c hc W)
  have HU := Lib.hid (fun (c : Nat) (h : IsCode n 4096 65535 c) => codeN_uniq (by omega) (by omega) h)
  generalize codeN n 4096 65535 = R at HU ⊢
  go_enter Try.func80, Try.ntmps80
  go_wp2
  go_loop [7, 8, 9] (fun a b z => ∃ lo hi : Nat, a = .int .i64 lo ∧ b = .int .i64 hi ∧ Hid (Halve n 4096 65535 lo hi)) (fun a b _ => (intOf b).toNat - (intOf a).toNat)
  case atStart => exact ⟨0, 65535, rfl, rfl, Lib.hid (Halve.start n 4096 65535)⟩
  case round =>
    obtain ⟨lo, hi, rfl, rfl, HH⟩ := hrel
    have b1 := HH.out.1
    have b2 := HH.out.2.1
    by_cases hlt : lo < hi
    · have hd : (lo : Int) < (hi : Int) := by omega
      obtain ⟨k, hk⟩ : ∃ k, k = (lo + hi + 1) / 2 := ⟨_, rfl⟩
      have t1 : ((lo : Int) + (hi : Int) + 1) / 2 = (k : Int) := by omega
      have t2 : ((lo : Int) + (hi : Int) + 1).tdiv 2 = (k : Int) := by rw [Int.tdiv_eq_ediv_of_nonneg (by omega)]; exact t1
      have k1 : lo < k := by omega
      have k2 : k ≤ hi := by omega
      have HK := Lib.hid (HV.out k (by omega))
      clear hk
      by_cases hv : (valN k 4096 : Int) ≤ n
      · have H2 := Lib.hid (HH.out.up k2 hv)
        generalize valN k 4096 = v at hv HK
        go_wp2_with (go_at_call 90; (with_reducible refine (HK.out _).mono ?_); rintro x w1 ⟨rfl, rfl⟩)
        go_round
        case rel => exact ⟨k, hi, rfl, rfl, H2⟩
        case measure => simp [intOf]; omega
      · have H2 := Lib.hid (HH.out.down k1 k2 hv)
        generalize valN k 4096 = v at hv HK
        go_wp2_with (go_at_call 90; (with_reducible refine (HK.out _).mono ?_); rintro x w1 ⟨rfl, rfl⟩)
        go_round
        case rel => exact ⟨lo, k - 1, rfl, by go_num, H2⟩
        case measure => simp [intOf]; omega
    · have hd : ¬ (lo : Int) < (hi : Int) := by omega
      have HR := Lib.hid (HU.out lo (HH.out.done (by omega)))
      go_wp2
      go_ret
      exact ⟨ret_int (by rw [HR.out]), rfl⟩
end Go.Proofs.Ytchbkamjmkfikaa

/-
  The document's own Group, Sources, exact and list of layer 8.
-/
namespace Go.Proofs.Ytchbkamjmkfikaa
open Go.RowKit
set_option linter.unusedVariables false
attribute [local go_sem ↓] ld_addr
attribute [local go_sem] ldr_addr row?_drewN_eq row?_drew_eq

/-- Whether an address is a group's of IPv4. -/
def grp8 (a : AD) : Bool := !a.1 && (goodV a.1 a.2 && grpV a.1 a.2)
/-- Whether a source may be said. -/
def src8 (a : AD) : Bool := !a.1 && goodV a.1 a.2
def srcs8 (l : List AD) : Bool := l.all src8 && decide (l.length < 65)
/-- An address boxed first of all. -/
def ABox (w W : World) (a : AD) : Prop := ObjAt W w.heap.size (adC a).toArray 25 ∧ Below w.heap.size w W
theorem ABox.made (w : World) (a : AD) : ABox w (w.alloc (.cells (adC a).toArray 25)) a := ⟨ObjAt.made w _ _, (Below.refl _ _).alloc (Nat.le_refl _) _⟩
theorem ABox.below {w W W' : World} {a : AD} (h : ABox w W a) (hb : Below W.heap.size W W') : ABox w W' a := ⟨h.1.below hb h.1.lt, bstep h.2 hb⟩
theorem ABox.row {w W : World} {a : AD} (h : ABox w W a) (ho : adOk a) : row? W w.heap.size 0 17 = some (adC a) := obj_row (A := []) (M := adC a) (C := []) (by simpa using h.1) rfl (adC_length ho)
theorem ABox.v {w W : World} {a : AD} (h : ABox w W a) : W.cell? ⟨w.heap.size, 0, none⟩ = some (.bool a.1) := by
  rw [ObjAt.cell h.1, List.getElem?_toArray]; rfl
set_option maxRecDepth 100000 in
set_option maxHeartbeats 1000000 in
theorem rgroup8_any (a : AD) (ho : adOk a) (w : World) : Calls Try.prog 24 #[.agg (adC a).toArray] w fun x w' => x = .returned (.bool (grp8 a)) ∧ Below w.heap.size w w' := by
  have H0 := Lib.hid (ABox.made w a)
  have HG := Lib.hid (fun W => rgood_any a.1 a.2 ho W)
  have HH := Lib.hid (fun W => rgroup_any a.1 a.2 ho W)
  have HK : Hid (∀ W, ABox w W a → row? W w.heap.size 0 17 = some (adC a) ∧ W.cell? ⟨w.heap.size, 0, none⟩ = some (.bool a.1)) := Lib.hid fun W h => ⟨h.row ho, h.v⟩
  obtain ⟨R, hR⟩ : ∃ R, R = grp8 a := ⟨_, rfl⟩
  rw [← hR]
  unfold grp8 at hR
  change Hid (∀ W, Calls Try.prog 65 #[.agg (adC a).toArray] W _) at HG
  change Hid (∀ W, Calls Try.prog 66 #[.agg (adC a).toArray] W _) at HH
  generalize goodV a.1 a.2 = g at HG hR
  generalize grpV a.1 a.2 = h at HH hR
  go_enter Try.func24, Try.ntmps24
  go_upto_region 1 with (fail)
  generalize w.alloc (.cells (adC a).toArray 25) = W at H0 ⊢
  obtain ⟨r1, c1⟩ := HK.out _ H0.out
  generalize a.1 = v at c1 hR HK
  have HR := Lib.hid hR
  clear hR
  cases v with
  | true =>
    go_wp2
    go_ret
    exact ⟨ret_bool8 (by rw [HR.out]; rfl), H0.out.2⟩
  | false =>
    cases g with
    | false =>
      go_wp2_with (go_at_call 65; (with_reducible refine (HG.out _).mono ?_); rintro x w1 ⟨rfl, hb1⟩; have H1 := Lib.hid (H0.out.below hb1); clear hb1)
      go_ret
      exact ⟨ret_bool8 (by rw [HR.out]; rfl), H1.out.2⟩
    | true =>
      go_wp2_with (first
        | (go_at_call 65; (with_reducible refine (HG.out _).mono ?_); rintro x w1 ⟨rfl, hb1⟩; have H1 := Lib.hid (H0.out.below hb1); clear hb1 r1 c1; obtain ⟨r1, c1⟩ := HK.out _ H1.out)
        | (go_at_call 66; (with_reducible refine (HH.out _).mono ?_); rintro x w2 ⟨rfl, hb2⟩; have H2 := Lib.hid (H1.out.below hb2); clear hb2))
      go_ret
      exact ⟨ret_bool8 (by rw [HR.out]; rfl), H2.out.2⟩
theorem all_take_succ {l : List AD} {k : Nat} (h : k < l.length) (f : AD → Bool) : (l.take (k + 1)).all f = ((l.take k).all f && f l[k]) := by
  rw [List.take_succ_eq_append_getElem h, List.all_append]; simp
theorem cells_ad {w : World} {b o : Nat} {a : AD} (h : row? w b o 17 = some (adC a)) : w.cell? ⟨b, o, none⟩ = some (.bool a.1) := by
  obtain ⟨h1, _⟩ := rangeAt_of_row? h
  exact h1 0 _ rfl
end Go.Proofs.Ytchbkamjmkfikaa

/-
  The document's own list and Good of layer 8.
-/
namespace Go.Proofs.Ytchbkamjmkfikaa
open Go.RowKit
set_option linter.unusedVariables false
attribute [local go_sem ↓] ld_addr st_addr bld_addr
attribute [local go_sem] ldr_addr str_addr row?_drewN_eq row?_drew_eq

def adB (a : AD) : List UInt8 := bytesV a.1 a.2
def listL (l : List AD) : List UInt8 := (l.map adB).flatten
theorem adB_le {a : AD} (h : adOk a) : (adB a).length ≤ 16 := by
  unfold adB bytesV
  have : a.2.length = 16 := h
  split <;> simp <;> omega
theorem listL_le {l : List AD} (h : ∀ a ∈ l, adOk a) : (listL l).length ≤ 16 * l.length := by
  induction l with
  | nil => simp [listL]
  | cons a r ih =>
    have h1 := adB_le (h a (by simp))
    have h2 := ih (fun b hb => h b (by simp [hb]))
    unfold listL at h2 ⊢
    simp at h2 ⊢
    omega
theorem listL_succ {l : List AD} {k : Nat} (h : k < l.length) : listL (l.take (k + 1)) = listL (l.take k) ++ adB l[k] := by
  unfold listL
  rw [List.take_succ_eq_append_getElem h, List.map_append, List.flatten_append]
  simp
set_option maxRecDepth 100000 in
set_option maxHeartbeats 2000000 in
theorem rlist8_any (v : Value) (l : List AD) (w : World) (ha : Ads w v l) (hl : l.length ≤ 10000) : Calls Try.prog 46 #[v] w fun x w' => x = .returned (.string (Str (listL l))) ∧ Below w.heap.size w w' := by
  obtain ⟨p, cap, rfl, h1, h2⟩ := ha.len
  by_cases h0 : l.length = 0
  · have e1 : l = [] := List.eq_nil_of_length_eq_zero h0
    subst e1
    go_enter Try.func46, Try.ntmps46
    go_wp2_with fail
    go_loop [3, 4] (fun s i => i = .int .i64 0 ∧ s = .string ⟨#[]⟩) (fun _ _ => 0)
    case atStart => exact ⟨rfl, rfl⟩
    case round =>
      obtain ⟨rfl, rfl⟩ := hrel
      go_wp2
      go_ret
      exact ⟨rfl, Below.refl _ _⟩
  · have na : l ≠ [] := fun h => h0 (by rw [h]; rfl)
    obtain ⟨b, o, cap', e, _, _, hbl, Ra⟩ := ha.parts na
    simp only [Value.slice.injEq] at e
    obtain ⟨rfl, _, rfl⟩ := e
    have OA := Lib.hid ha.ok
    have RA := Lib.hid Ra
    have HBL := Lib.hid hbl
    have HLE := Lib.hid (fun k => listL_le (l := l.take k) (fun a h => ha.ok a (List.mem_of_mem_take h)))
    obtain ⟨n, hn⟩ : ∃ n, n = l.length := ⟨_, rfl⟩
    have hmx : n ≤ 10000 := by omega
    rw [← hn] at h0 ⊢
    have HN := Lib.hid hn
    clear Ra ha na hn hbl h1 h2 hl
    go_enter Try.func46, Try.ntmps46
    go_wp2_with fail
    go_loopw [3, 4] (fun s i wr => ∃ k : Nat, k ≤ n ∧ i = .int .i64 k ∧ s = .string (Str (listL (l.take k))) ∧ Hid (Below w.heap.size w wr)) (fun _ i _ => n - (intOf i).toNat)
    case atStart => exact ⟨0, by omega, rfl, rfl, Lib.hid (Below.refl _ _)⟩
    case round =>
      obtain ⟨k, hk, rfl, rfl, HB⟩ := hrel
      by_cases hlt : k < n
      · have g1 : k < l.length := by rw [← HN.out]; exact hlt
        have r1 := row?_below (RA.out k g1) HBL.out HB.out
        have HG : Hid (∀ W, Calls Try.prog 44 #[.agg (adC l[k]).toArray] W fun x w' => x = .returned (.string (Str (adB l[k]))) ∧ Below W.heap.size W w') := Lib.hid fun W => rbytes_any l[k].1 l[k].2 (OA.out _ (List.getElem_mem g1)) W
        have hc := listL_succ g1
        have hb16 := adB_le (OA.out _ (List.getElem_mem g1))
        have hle := HLE.out k
        rw [List.length_take, Nat.min_eq_left (by rw [← HN.out]; exact hk)] at hle
        have hrc := run_cat (P := Try.prog) (listL (l.take k)) (adB l[k]) (by omega)
        rw [← hc] at hrc
        have hd : decide ((k : Int) < (n : Int)) = true := by simp; omega
        have hk1 : (k : Int) < (n : Int) := by omega
        have hw1 : IntKind.i64.wrap ((k : Int) + 1) = (k : Int) + 1 := by simp only [IntKind.wrap_i64]; omega
        generalize adB l[k] = B at *
        generalize adC l[k] = A at *
        clear g1 hc hb16 hle
        generalize hX : listL (l.take (k + 1)) = X at hrc
        generalize listL (l.take k) = Y at *
        have HX := Lib.hid hX
        clear hX
        go_wp2_with (go_at_call 44; (with_reducible refine (HG.out _).mono ?_); rintro x w1 ⟨rfl, hb1⟩; have H1 := Lib.hid (bstep HB.out hb1); clear hb1)
        go_roundw
        case rel => exact ⟨k + 1, by omega, by go_num, by rw [HX.out], H1⟩
        case measure => simp [intOf]; omega
      · have hd : ¬ (k : Int) < (n : Int) := by omega
        have HV := Lib.hid (show listL (l.take k) = listL l by rw [List.take_of_length_le (by rw [← HN.out]; omega)])
        go_wp2
        go_ret
        exact ⟨by rw [← HV.out]; rfl, HB.out⟩
end Go.Proofs.Ytchbkamjmkfikaa

/-
  A packet of IPv4 in memory, and how it is loaded and stored whole.
-/
namespace Go.Proofs.Ytchbkamjmkfikaa
open Go.RowKit
set_option linter.unusedVariables false

structure Ip where
  tos : Int
  id : Int
  ttl : Int
  pro : Int
  f6 : Bool
  fr : List UInt8
  t6 : Bool
  to : List UInt8
  al : Bool
  bd : List UInt8
def Ip.ok (p : Ip) : Prop := p.fr.length = 16 ∧ p.to.length = 16
/-- Its cells. -/
def ipC (p : Ip) : List Value := [.int .i64 p.tos, .int .i64 p.id, .int .i64 p.ttl, .int .i64 p.pro] ++ (addrC p.f6 p.fr ++ (addrC p.t6 p.to ++ [.bool p.al, .string (Str p.bd)]))
theorem ipC_length {p : Ip} (h : p.ok) : (ipC p).length = 40 := by
  obtain ⟨h1, h2⟩ := h
  simp [ipC, addrC_length, h1, h2]
theorem ipC_one (p : Ip) : ∀ x ∈ ipC p, x.oneCell' = true := by
  intro x hx
  simp only [ipC, List.mem_append, List.mem_cons, List.not_mem_nil, or_false] at hx
  rcases hx with (rfl | rfl | rfl | rfl) | hx | hx | rfl | rfl
  · rfl
  · rfl
  · rfl
  · rfl
  · exact addrC_one _ _ x hx
  · exact addrC_one _ _ x hx
  all_goals rfl
theorem fok_ip {p : Ip} (h : p.ok) : fok (ipC p).toArray 40 = true := by
  have h1 : (ipC p).toArray.all (·.oneCell') = true := all_oneCell_toArray (ipC_one p)
  simp only [fok, h1, Bool.and_true]
  simp [ipC_length h]
/-- An address is stored whole at an offset. -/
noncomputable def aggStSlowO (T : TypeId) (b o : Nat) (v : Value) (w : World) : Result Unit := (aggSt T ⟨b, o, none⟩ v).run Try.prog w
theorem st_run_at {T : TypeId} {n : Nat} (hi : (Try.prog.info? T).map (·.size) = some n) (b o : Nat) (cs : Array Value) (w : World) :
    (aggSt T ⟨b, o, none⟩ (.agg cs)).run Try.prog w = match free? w b o n && fok cs n with | true => .ok () (aggO w b o cs.toList) | false => aggStSlowO T b o (.agg cs) w := by
  split
  · rename_i h
    simp only [Bool.and_eq_true, fok, beq_iff_eq] at h
    obtain ⟨h1, h2, h3⟩ := h
    rw [aggO_eq]
    exact run_storeVar_mid w b o T cs (by rw [h2]; exact of_free h1) (by rw [h2]; exact hi) h3
  · rfl
theorem str_addr_at (b o : Nat) (cs : Array Value) (w : World) : (aggSt 25 ⟨b, o, none⟩ (.agg cs)).run Try.prog w = match free? w b o 17 && fok cs 17 with | true => .ok () (aggO w b o cs.toList) | false => aggStSlowO 25 b o (.agg cs) w :=
  st_run_at (by kernel_rfl) b o cs w
end Go.Proofs.Ytchbkamjmkfikaa

