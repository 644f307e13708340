/-
  Texts joined: CodR, TkA, TkB, Ip, Pure1, OctBits.
-/
import Derived.Test.YtgpccgcppbdlpaaGreatMg06
import Derived.Test.YtgpccgcppbdlpaaGreatTk
import Derived.Test.YtgpccgcppbdlpaaGreatMg01
import Derived.Test.YtgpccgcppbdlpaaGreatMg02
import Derived.Test.YtgpccgcppbdlpaaGreatMg03
import Derived.Test.YtgpccgcppbdlpaaGreatMg00
/-
  The contracts of the document's own answers of layer 7: value, Value8, Value16, code, Code8, Code16.
-/
namespace Go.Proofs.YtgpccgcppbdlpaaGreat
open Go.RowKit
set_option linter.unusedVariables false

set_option maxRecDepth 100000 in
set_option maxHeartbeats 1000000 in
theorem rval8 (c : Nat) (hc : c ≤ 255) (w : World) : Calls Tryz.prog 77 #[.int .i64 c, .int .i64 16] w fun x w' => x = .returned (.int .i64 (valN c 16)) ∧ w = w' := by
  by_cases h8 : c < 128
  · have hv : valN c 16 = c := valN_small (by omega)
    have hd : (c : Int) < 128 := by omega
    rw [hv]
    go_enter Tryz.func77, Tryz.ntmps77
    go_wp2
    go_ret
    exact ⟨rfl, rfl⟩
  · obtain ⟨q, hq⟩ : ∃ q, q = c / 16 := ⟨_, rfl⟩
    obtain ⟨m, hm⟩ : ∃ m, m = c % 16 := ⟨_, rfl⟩
    obtain ⟨M, hM⟩ : ∃ M, M = m + 16 := ⟨_, rfl⟩
    obtain ⟨K, hK⟩ : ∃ K, K = q % 8 + 3 := ⟨_, rfl⟩
    have hv : valN c 16 = M * 2 ^ K := by unfold valN; rw [if_neg (by omega), ← hq, ← hm, ← hM, ← hK]
    have HV := Lib.hid hv
    have hd : ¬ (c : Int) < 128 := by omega
    have t1 : (c : Int) / 16 = (q : Int) := by omega
    have t2 : (c : Int) % 16 = (m : Int) := by omega
    have t3 : (q : Int) % 8 = ((q % 8 : Nat) : Int) := by omega
    have hMb : M ≤ 32 := by omega
    have hKb : K ≤ 10 := by omega
    have w1 : IntKind.i64.wrap ((m : Int) + 16) = (M : Int) := by rw [hM]; simp only [IntKind.wrap_i64]; omega
    have w2 : IntKind.i64.wrap ((q : Int) % 8 + 3) = (K : Int) := by rw [hK]; simp only [IntKind.wrap_i64]; omega
    have e1 : (m : Int) + 16 = (M : Int) := by omega
    have e2 : (q : Int) % 8 + 3 = (K : Int) := by omega
    clear hq hm hM hK hv h8 t3
    go_enter Tryz.func77, Tryz.ntmps77
    go_wp2
    go_loop [5, 6] (fun n k => ∃ j : Nat, j ≤ K ∧ k = .int .i64 ((K - j : Nat) : Int) ∧ n = .int .i64 ((M * 2 ^ j : Nat) : Int)) (fun _ k => (intOf k).toNat)
    case atStart => exact ⟨0, by omega, by simp, by simp⟩
    case round =>
      obtain ⟨j, hj, rfl, rfl⟩ := hrel
      have hp : 2 ^ j ≤ 1024 := Nat.pow_le_pow_right (n := 2) (by omega) (show j ≤ 10 by omega)
      have hle : M * 2 ^ j ≤ 32 * 1024 := Nat.mul_le_mul hMb hp
      obtain ⟨z, hz⟩ : ∃ z, z = M * 2 ^ j := ⟨_, rfl⟩
      rw [← hz] at hle ⊢
      have HZ := Lib.hid hz; clear hz hp
      by_cases hlt : j < K
      · have hk : (0 : Int) < ((K - j : Nat) : Int) := by omega
        go_wp2
        go_round
        case rel => exact ⟨j + 1, by omega, by go_num, by rw [Nat.pow_succ, ← Nat.mul_assoc, ← HZ.out]; go_num⟩
        case measure => simp [intOf]; omega
      · obtain rfl : j = K := by omega
        go_wp2
        go_ret
        exact ⟨ret_int (by rw [HV.out, HZ.out]), rfl⟩
theorem rvalue8 (n : Int) (w : World) : Calls Tryz.prog 40 #[.int .i64 n] w fun x w' => x = .returned (.int .i64 (valN (clampN n 255) 16)) ∧ w = w' := by
  have hc := clampN_le n 255
  have HW : Hid (∀ W, Calls Tryz.prog 78 #[.int .i64 n, .int .i64 0, .int .i64 255] W fun e w' => e = .returned (.int .i64 (clampN n 255 : Int)) ∧ W = w') := Lib.hid fun W => within_any n 255 W
  generalize clampN n 255 = c at hc HW ⊢
  have HV := Lib.hid (fun W => rval8 c hc W)
  clear hc
  go_enter Tryz.func40, Tryz.ntmps40
  go_wp2_with (first
    | (go_at_call 78; (with_reducible refine (HW.out _).mono ?_); rintro x w1 ⟨rfl, rfl⟩)
    | (go_at_call 77; (with_reducible refine (HV.out _).mono ?_); rintro x w1 ⟨rfl, rfl⟩))
  go_ret
  exact ⟨rfl, rfl⟩
set_option maxRecDepth 100000 in
set_option maxHeartbeats 1000000 in
theorem rcod8 (n : Int) (w : World) : Calls Tryz.prog 79 #[.int .i64 n, .int .i64 16, .int .i64 255] w fun x w' => x = .returned (.int .i64 (codeN n 16 255)) ∧ w = w' := by
  have HV := Lib.hid (fun (c : Nat) (hc : c ≤ 255) W => rval8 c hc W)
  have HU := Lib.hid (fun (c : Nat) (h : IsCode n 16 255 c) => codeN_uniq (by omega) (by omega) h)
  generalize codeN n 16 255 = R at HU ⊢
  go_enter Tryz.func79, Tryz.ntmps79
  go_wp2
  go_loop [7, 8, 9] (fun a b z => ∃ lo hi : Nat, a = .int .i64 lo ∧ b = .int .i64 hi ∧ Hid (Halve n 16 255 lo hi)) (fun a b _ => (intOf b).toNat - (intOf a).toNat)
  case atStart => exact ⟨0, 255, rfl, rfl, Lib.hid (Halve.start n 16 255)⟩
  case round =>
    obtain ⟨lo, hi, rfl, rfl, HH⟩ := hrel
    have b1 := HH.out.1
    have b2 := HH.out.2.1
    by_cases hlt : lo < hi
    · have hd : (lo : Int) < (hi : Int) := by omega
      obtain ⟨k, hk⟩ : ∃ k, k = (lo + hi + 1) / 2 := ⟨_, rfl⟩
      have t1 : ((lo : Int) + (hi : Int) + 1) / 2 = (k : Int) := by omega
      have t2 : ((lo : Int) + (hi : Int) + 1).tdiv 2 = (k : Int) := by rw [Int.tdiv_eq_ediv_of_nonneg (by omega)]; exact t1
      have k1 : lo < k := by omega
      have k2 : k ≤ hi := by omega
      have HK := Lib.hid (HV.out k (by omega))
      clear hk
      by_cases hv : (valN k 16 : Int) ≤ n
      · have H2 := Lib.hid (HH.out.up k2 hv)
        generalize valN k 16 = v at hv HK
        go_wp2_with (go_at_call 77; (with_reducible refine (HK.out _).mono ?_); rintro x w1 ⟨rfl, rfl⟩)
        go_round
        case rel => exact ⟨k, hi, rfl, rfl, H2⟩
        case measure => simp [intOf]; omega
      · have H2 := Lib.hid (HH.out.down k1 k2 hv)
        generalize valN k 16 = v at hv HK
        go_wp2_with (go_at_call 77; (with_reducible refine (HK.out _).mono ?_); rintro x w1 ⟨rfl, rfl⟩)
        go_round
        case rel => exact ⟨lo, k - 1, rfl, by go_num, H2⟩
        case measure => simp [intOf]; omega
    · have hd : ¬ (lo : Int) < (hi : Int) := by omega
      have HR := Lib.hid (HU.out lo (HH.out.done (by omega)))
      go_wp2
      go_ret
      exact ⟨ret_int (by rw [HR.out]), rfl⟩
theorem rcode8 (n : Int) (w : World) : Calls Tryz.prog 41 #[.int .i64 n] w fun x w' => x = .returned (.int .i64 (codeN n 16 255)) ∧ w = w' := by
  have HC := Lib.hid (fun W => rcod8 n W)
  generalize codeN n 16 255 = R at HC ⊢
  go_enter Tryz.func41, Tryz.ntmps41
  go_wp2_with (go_at_call 79; (with_reducible refine (HC.out _).mono ?_); rintro x w1 ⟨rfl, rfl⟩)
  go_ret
  exact ⟨rfl, rfl⟩

set_option maxRecDepth 100000 in
set_option maxHeartbeats 1000000 in
theorem rval16 (c : Nat) (hc : c ≤ 65535) (w : World) : Calls Tryz.prog 77 #[.int .i64 c, .int .i64 4096] w fun x w' => x = .returned (.int .i64 (valN c 4096)) ∧ w = w' := by
  by_cases h8 : c < 32768
  · have hv : valN c 4096 = c := valN_small (by omega)
    have hd : (c : Int) < 32768 := by omega
    rw [hv]
    go_enter Tryz.func77, Tryz.ntmps77
    go_wp2
    go_ret
    exact ⟨rfl, rfl⟩
  · obtain ⟨q, hq⟩ : ∃ q, q = c / 4096 := ⟨_, rfl⟩
    obtain ⟨m, hm⟩ : ∃ m, m = c % 4096 := ⟨_, rfl⟩
    obtain ⟨M, hM⟩ : ∃ M, M = m + 4096 := ⟨_, rfl⟩
    obtain ⟨K, hK⟩ : ∃ K, K = q % 8 + 3 := ⟨_, rfl⟩
    have hv : valN c 4096 = M * 2 ^ K := by unfold valN; rw [if_neg (by omega), ← hq, ← hm, ← hM, ← hK]
    have HV := Lib.hid hv
    have hd : ¬ (c : Int) < 32768 := by omega
    have t1 : (c : Int) / 4096 = (q : Int) := by omega
    have t2 : (c : Int) % 4096 = (m : Int) := by omega
    have t3 : (q : Int) % 8 = ((q % 8 : Nat) : Int) := by omega
    have hMb : M ≤ 8192 := by omega
    have hKb : K ≤ 10 := by omega
    have w1 : IntKind.i64.wrap ((m : Int) + 4096) = (M : Int) := by rw [hM]; simp only [IntKind.wrap_i64]; omega
    have w2 : IntKind.i64.wrap ((q : Int) % 8 + 3) = (K : Int) := by rw [hK]; simp only [IntKind.wrap_i64]; omega
    have e1 : (m : Int) + 4096 = (M : Int) := by omega
    have e2 : (q : Int) % 8 + 3 = (K : Int) := by omega
    clear hq hm hM hK hv h8 t3
    go_enter Tryz.func77, Tryz.ntmps77
    go_wp2
    go_loop [5, 6] (fun n k => ∃ j : Nat, j ≤ K ∧ k = .int .i64 ((K - j : Nat) : Int) ∧ n = .int .i64 ((M * 2 ^ j : Nat) : Int)) (fun _ k => (intOf k).toNat)
    case atStart => exact ⟨0, by omega, by simp, by simp⟩
    case round =>
      obtain ⟨j, hj, rfl, rfl⟩ := hrel
      have hp : 2 ^ j ≤ 1024 := Nat.pow_le_pow_right (n := 2) (by omega) (show j ≤ 10 by omega)
      have hle : M * 2 ^ j ≤ 8192 * 1024 := Nat.mul_le_mul hMb hp
      obtain ⟨z, hz⟩ : ∃ z, z = M * 2 ^ j := ⟨_, rfl⟩
      rw [← hz] at hle ⊢
      have HZ := Lib.hid hz; clear hz hp
      by_cases hlt : j < K
      · have hk : (0 : Int) < ((K - j : Nat) : Int) := by omega
        go_wp2
        go_round
        case rel => exact ⟨j + 1, by omega, by go_num, by rw [Nat.pow_succ, ← Nat.mul_assoc, ← HZ.out]; go_num⟩
        case measure => simp [intOf]; omega
      · obtain rfl : j = K := by omega
        go_wp2
        go_ret
        exact ⟨ret_int (by rw [HV.out, HZ.out]), rfl⟩
theorem rvalue16 (n : Int) (w : World) : Calls Tryz.prog 38 #[.int .i64 n] w fun x w' => x = .returned (.int .i64 (valN (clampN n 65535) 4096)) ∧ w = w' := by
  have hc := clampN_le n 65535
  have HW : Hid (∀ W, Calls Tryz.prog 78 #[.int .i64 n, .int .i64 0, .int .i64 65535] W fun e w' => e = .returned (.int .i64 (clampN n 65535 : Int)) ∧ W = w') := Lib.hid fun W => within_any n 65535 W
  generalize clampN n 65535 = c at hc HW ⊢
  have HV := Lib.hid (fun W => rval16 c hc W)
  clear hc
  go_enter Tryz.func38, Tryz.ntmps38
  go_wp2_with (first
    | (go_at_call 78; (with_reducible refine (HW.out _).mono ?_); rintro x w1 ⟨rfl, rfl⟩)
    | (go_at_call 77; (with_reducible refine (HV.out _).mono ?_); rintro x w1 ⟨rfl, rfl⟩))
  go_ret
  exact ⟨rfl, rfl⟩
set_option maxRecDepth 100000 in
set_option maxHeartbeats 1000000 in
theorem rcod16 (n : Int) (w : World) : Calls Tryz.prog 79 #[.int .i64 n, .int .i64 4096, .int .i64 65535] w fun x w' => x = .returned (.int .i64 (codeN n 4096 65535)) ∧ w = w' := by
  have HV := Lib.hid (fun (c : Nat) (hc : c ≤ 65535) W => rval16 c hc W)
  have HU := Lib.hid (fun (c : Nat) (h : IsCode n 4096 65535 c) => codeN_uniq (by omega) (by omega) h)
  generalize codeN n 4096 65535 = R at HU ⊢
  go_enter Tryz.func79, Tryz.ntmps79
  go_wp2
  go_loop [7, 8, 9] (fun a b z => ∃ lo hi : Nat, a = .int .i64 lo ∧ b = .int .i64 hi ∧ Hid (Halve n 4096 65535 lo hi)) (fun a b _ => (intOf b).toNat - (intOf a).toNat)
  case atStart => exact ⟨0, 65535, rfl, rfl, Lib.hid (Halve.start n 4096 65535)⟩
  case round =>
    obtain ⟨lo, hi, rfl, rfl, HH⟩ := hrel
    have b1 := HH.out.1
    have b2 := HH.out.2.1
    by_cases hlt : lo < hi
    · have hd : (lo : Int) < (hi : Int) := by omega
      obtain ⟨k, hk⟩ : ∃ k, k = (lo + hi + 1) / 2 := ⟨_, rfl⟩
      have t1 : ((lo : Int) + (hi : Int) + 1) / 2 = (k : Int) := by omega
      have t2 : ((lo : Int) + (hi : Int) + 1).tdiv 2 = (k : Int) := by rw [Int.tdiv_eq_ediv_of_nonneg (by omega)]; exact t1
      have k1 : lo < k := by omega
      have k2 : k ≤ hi := by omega
      have HK := Lib.hid (HV.out k (by omega))
      clear hk
      by_cases hv : (valN k 4096 : Int) ≤ n
      · have H2 := Lib.hid (HH.out.up k2 hv)
        generalize valN k 4096 = v at hv HK
        go_wp2_with (go_at_call 77; (with_reducible refine (HK.out _).mono ?_); rintro x w1 ⟨rfl, rfl⟩)
        go_round
        case rel => exact ⟨k, hi, rfl, rfl, H2⟩
        case measure => simp [intOf]; omega
      · have H2 := Lib.hid (HH.out.down k1 k2 hv)
        generalize valN k 4096 = v at hv HK
        go_wp2_with (go_at_call 77; (with_reducible refine (HK.out _).mono ?_); rintro x w1 ⟨rfl, rfl⟩)
        go_round
        case rel => exact ⟨lo, k - 1, rfl, by go_num, H2⟩
        case measure => simp [intOf]; omega
    · have hd : ¬ (lo : Int) < (hi : Int) := by omega
      have HR := Lib.hid (HU.out lo (HH.out.done (by omega)))
      go_wp2
      go_ret
      exact ⟨ret_int (by rw [HR.out]), rfl⟩
theorem rcode16 (n : Int) (w : World) : Calls Tryz.prog 39 #[.int .i64 n] w fun x w' => x = .returned (.int .i64 (codeN n 4096 65535)) ∧ w = w' := by
  have HC := Lib.hid (fun W => rcod16 n W)
  generalize codeN n 4096 65535 = R at HC ⊢
  go_enter Tryz.func39, Tryz.ntmps39
  go_wp2_with (go_at_call 79; (with_reducible refine (HC.out _).mono ?_); rintro x w1 ⟨rfl, rfl⟩)
  go_ret
  exact ⟨rfl, rfl⟩
end Go.Proofs.YtgpccgcppbdlpaaGreat

/-
  The document's own Group, Sources, exact and list of layer 8.
-/
namespace Go.Proofs.YtgpccgcppbdlpaaGreat
open Go.RowKit
set_option linter.unusedVariables false
attribute [local go_sem ↓] ld_addr
attribute [local go_sem] ldr_addr row?_drewN_eq row?_drew_eq

/-- Whether an address is a group's of IPv4. -/
def grp8 (a : AD) : Bool := !a.1 && (goodV a.1 a.2 && grpV a.1 a.2)
/-- An address boxed first of all. -/
def ABox (w W : World) (a : AD) : Prop := ObjAt W w.heap.size (adC a).toArray 24 ∧ Below w.heap.size w W
theorem ABox.made (w : World) (a : AD) : ABox w (w.alloc (.cells (adC a).toArray 24)) a := ⟨ObjAt.made w _ _, (Below.refl _ _).alloc (Nat.le_refl _) _⟩
theorem ABox.below {w W W' : World} {a : AD} (h : ABox w W a) (hb : Below W.heap.size W W') : ABox w W' a := ⟨h.1.below hb h.1.lt, bstep h.2 hb⟩
theorem ABox.row {w W : World} {a : AD} (h : ABox w W a) (ho : adOk a) : row? W w.heap.size 0 17 = some (adC a) := obj_row (A := []) (M := adC a) (C := []) (by simpa using h.1) rfl (adC_length ho)
theorem ABox.v {w W : World} {a : AD} (h : ABox w W a) : W.cell? ⟨w.heap.size, 0, none⟩ = some (.bool a.1) := by
  rw [ObjAt.cell h.1, List.getElem?_toArray]; rfl
theorem all_take_succ {l : List AD} {k : Nat} (h : k < l.length) (f : AD → Bool) : (l.take (k + 1)).all f = ((l.take k).all f && f l[k]) := by
  rw [List.take_succ_eq_append_getElem h, List.all_append]; simp
theorem cells_ad {w : World} {b o : Nat} {a : AD} (h : row? w b o 17 = some (adC a)) : w.cell? ⟨b, o, none⟩ = some (.bool a.1) := by
  obtain ⟨h1, _⟩ := rangeAt_of_row? h
  exact h1 0 _ rfl
end Go.Proofs.YtgpccgcppbdlpaaGreat

/-
  The document's own list and Good of layer 8.
-/
namespace Go.Proofs.YtgpccgcppbdlpaaGreat
open Go.RowKit
set_option linter.unusedVariables false
attribute [local go_sem ↓] ld_addr st_addr bld_addr
attribute [local go_sem] ldr_addr str_addr row?_drewN_eq row?_drew_eq

def adB (a : AD) : List UInt8 := bytesV a.1 a.2
def listL (l : List AD) : List UInt8 := (l.map adB).flatten
theorem adB_le {a : AD} (h : adOk a) : (adB a).length ≤ 16 := by
  unfold adB bytesV
  have : a.2.length = 16 := h
  split <;> simp <;> omega
theorem listL_le {l : List AD} (h : ∀ a ∈ l, adOk a) : (listL l).length ≤ 16 * l.length := by
  induction l with
  | nil => simp [listL]
  | cons a r ih =>
    have h1 := adB_le (h a (by simp))
    have h2 := ih (fun b hb => h b (by simp [hb]))
    unfold listL at h2 ⊢
    simp at h2 ⊢
    omega
theorem listL_succ {l : List AD} {k : Nat} (h : k < l.length) : listL (l.take (k + 1)) = listL (l.take k) ++ adB l[k] := by
  unfold listL
  rw [List.take_succ_eq_append_getElem h, List.map_append, List.flatten_append]
  simp
end Go.Proofs.YtgpccgcppbdlpaaGreat

/-
  A packet of IPv4 in memory, and how it is loaded and stored whole.
-/
namespace Go.Proofs.YtgpccgcppbdlpaaGreat
open Go.RowKit
set_option linter.unusedVariables false

structure Ip where
  tos : Int
  id : Int
  ttl : Int
  pro : Int
  f6 : Bool
  fr : List UInt8
  t6 : Bool
  to : List UInt8
  al : Bool
  bd : List UInt8
def Ip.ok (p : Ip) : Prop := p.fr.length = 16 ∧ p.to.length = 16
/-- An address is stored whole at an offset. -/
noncomputable def aggStSlowO (T : TypeId) (b o : Nat) (v : Value) (w : World) : Result Unit := (aggSt T ⟨b, o, none⟩ v).run Tryz.prog w
theorem st_run_at {T : TypeId} {n : Nat} (hi : (Tryz.prog.info? T).map (·.size) = some n) (b o : Nat) (cs : Array Value) (w : World) :
    (aggSt T ⟨b, o, none⟩ (.agg cs)).run Tryz.prog w = match free? w b o n && fok cs n with | true => .ok () (aggO w b o cs.toList) | false => aggStSlowO T b o (.agg cs) w := by
  split
  · rename_i h
    simp only [Bool.and_eq_true, fok, beq_iff_eq] at h
    obtain ⟨h1, h2, h3⟩ := h
    rw [aggO_eq]
    exact run_storeVar_mid w b o T cs (by rw [h2]; exact of_free h1) (by rw [h2]; exact hi) h3
  · rfl
theorem str_addr_at (b o : Nat) (cs : Array Value) (w : World) : (aggSt 24 ⟨b, o, none⟩ (.agg cs)).run Tryz.prog w = match free? w b o 17 && fok cs 17 with | true => .ok () (aggO w b o cs.toList) | false => aggStSlowO 24 b o (.agg cs) w :=
  st_run_at (by kernel_rfl) b o cs w
end Go.Proofs.YtgpccgcppbdlpaaGreat

/-
  Plain lemmas on numbers and their bytes; nothing of the program.
-/
namespace Go.Proofs.YtgpccgcppbdlpaaGreat
open Go.RowKit
set_option linter.unusedVariables false

theorem fold_putL (n : Nat) : ∀ (w acc : Nat), (putL n w).foldl (fun n b => (n * 256 + b.toNat) % 18446744073709551616) acc % 18446744073709551616 = (acc * 256 ^ w + n % 256 ^ w) % 18446744073709551616
  | 0, acc => by simp [putL, Nat.mod_one]
  | w + 1, acc => by
    have e1 : n % 256 ^ (w + 1) = n % 256 ^ w + 256 ^ w * (n / 256 ^ w % 256) := by rw [Nat.pow_succ, Nat.mod_mul]
    rw [putL, List.foldl_cons, fold_putL n w, UInt8.toNat_ofNat', e1, show (2 : Nat) ^ 8 = 256 from rfl, show (256 : Nat) ^ (w + 1) = 256 ^ w * 256 from Nat.pow_succ _ _]
    generalize 256 ^ w = p
    generalize n % p = x
    generalize n / p % 256 = b
    have e2 : (acc * 256 + b) % 18446744073709551616 * p % 18446744073709551616 = (acc * 256 + b) * p % 18446744073709551616 := Nat.mod_mul_mod _ _ _
    rw [Nat.add_mod, e2, ← Nat.add_mod]
    congr 1
    rw [Nat.add_mul, Nat.mul_comm p b, Nat.mul_assoc, Nat.mul_comm 256 p]
    omega
theorem num_putL (n w : Nat) (h : n % 256 ^ w < 18446744073709551616) : num (putL n w) = n % 256 ^ w := by
  have e := fold_putL n w 0
  have l := num_lt (putL n w)
  unfold num at *
  rw [Nat.mod_eq_of_lt l] at e
  rw [e, Nat.zero_mul, Nat.zero_add, Nat.mod_eq_of_lt h]

theorem wrap_ones (W : Nat) (h : W ≤ 64) : IntKind.u64.wrap (IntKind.u64.wrap ((2 : Int) ^ W) - 1) = ((2 ^ W - 1 : Nat) : Int) := by
  have e : (2 : Int) ^ W = ((2 ^ W : Nat) : Int) := by simp
  have hp : 0 < 2 ^ W := Nat.pow_pos (by omega)
  have hq : 2 ^ W ≤ 2 ^ 64 := Nat.pow_le_pow_right (by omega) h
  rw [e]
  generalize 2 ^ W = p at *
  simp only [IntKind.wrap_u64]
  omega

theorem toNat_ofInt64 (a : Nat) (ha : a < 18446744073709551616) : (BitVec.ofInt 64 (a : Int)).toNat = a := by
  rw [BitVec.ofInt_natCast, BitVec.toNat_ofNat]; exact Nat.mod_eq_of_lt (by omega)
theorem bits_and_u64_nat (a b : Nat) (ha : a < 18446744073709551616) (hb : b < 18446744073709551616) :
    bits .and .u64 (a : Int) (b : Int) = ((a &&& b : Nat) : Int) := by
  have hx : a &&& b ≤ a := Nat.and_le_left
  show IntKind.u64.wrap ((BitVec.ofInt 64 (a : Int) &&& BitVec.ofInt 64 (b : Int)).toNat : Int) = _
  rw [BitVec.toNat_and, toNat_ofInt64 a ha, toNat_ofInt64 b hb, IntKind.wrap_u64]
  omega
/-- The bits of a that b lacks, in 64 bits. -/
def andNotN (a b : Nat) : Nat := a &&& (18446744073709551615 - b)
theorem bits_andNot_u64_nat (a b : Nat) (ha : a < 18446744073709551616) (hb : b < 18446744073709551616) :
    bits .andNot .u64 (a : Int) (b : Int) = ((andNotN a b : Nat) : Int) := by
  have hx : a &&& (18446744073709551615 - b) ≤ a := Nat.and_le_left
  show IntKind.u64.wrap ((BitVec.ofInt 64 (a : Int) &&& ~~~ BitVec.ofInt 64 (b : Int)).toNat : Int) = _
  rw [BitVec.toNat_and, BitVec.toNat_not, toNat_ofInt64 a ha, toNat_ofInt64 b hb, IntKind.wrap_u64]
  unfold andNotN
  rw [show 2 ^ 64 - 1 - b = 18446744073709551615 - b from rfl]
  omega
/-- The mask of w bits from f on. -/
def maskN (f w : Nat) : Nat := (2 ^ w - 1) * 2 ^ f % 18446744073709551616
/-- n with the bits of v in place of w of its own from f on. -/
def setN (n f w v : Nat) : Nat := andNotN n (maskN f w) ||| ((v * 2 ^ f % 18446744073709551616) &&& maskN f w)
end Go.Proofs.YtgpccgcppbdlpaaGreat

/-
  The contracts of octet.Bits and octet.Set, and of the document's answer Set.
-/
namespace Go.Proofs.YtgpccgcppbdlpaaGreat
open Go.RowKit
set_option linter.unusedVariables false

theorem ones_any (wide : Int) (w : World) : Calls Tryz.prog 112 #[.int .i64 wide] w fun e w' => e = .returned (.int .u64 ((2 ^ clampN wide 64 - 1 : Nat) : Int)) ∧ w = w' := by
  have hc := clampN_le wide 64
  generalize hW : clampN wide 64 = W at hc ⊢
  have HW := Lib.hid hW; clear hW
  go_enter Tryz.func112, Tryz.ntmps112
  go_wp2_with fail
  refine (clamp_any wide 64 _).mono ?_
  rintro e w1 ⟨rfl, rfl⟩
  rw [HW.out]
  go_wp2
  go_ret
  exact ⟨ret_int (wrap_ones W hc), rfl⟩

theorem shr_and (n F W : Nat) (hn : n ≤ 18446744073709551615) (hF : F ≤ 64) (hW : W ≤ 64) : bits BinOp.and IntKind.u64 ((n : Int) / 2 ^ F) ((2 ^ W - 1 : Nat) : Int) = ((n / 2 ^ F % 2 ^ W : Nat) : Int) := by
  have hq : 2 ^ W ≤ 2 ^ 64 := Nat.pow_le_pow_right (by omega) hW
  have hp : 0 < 2 ^ W := Nat.pow_pos (by omega)
  have hd : n / 2 ^ F ≤ n := Nat.div_le_self _ _
  rw [show (2 : Int) ^ F = ((2 ^ F : Nat) : Int) by simp, ← Int.natCast_ediv, bits_and_u64_nat _ _ (by omega) (by omega), Nat.and_two_pow_sub_one_eq_mod]

set_option maxHeartbeats 400000 in
theorem bits_any (n : Nat) (hn : n ≤ 18446744073709551615) (from_ wide : Int) (w : World) : Calls Tryz.prog 99 #[.int .u64 n, .int .i64 from_, .int .i64 wide] w fun e w' => e = .returned (.int .u64 (bitsN n from_ wide)) ∧ ∃ k, w' = w.drewN k := by
  unfold bitsN
  have hF := clampN_le from_ 64
  go_enter Tryz.func99, Tryz.ntmps99
  go_wp2_with fail
  go_quiet (first | ((go_at_call 94; exact Calls.quiet_of_same ((clamp_any _ 64 _).mono fun _ _ h => ⟨h.1, h.2.symm⟩))) | ((go_at_call 112; exact Calls.quiet_of_same ((ones_any _ _).mono fun _ _ h => ⟨h.1, h.2.symm⟩))))
  go_wp2
  go_ret
  have HA := shr_and n (clampN from_ 64) (clampN wide 64) hn hF (clampN_le _ _)
  refine ⟨ret_int HA, ?_⟩
  exact ⟨_, rfl⟩

theorem set_form (n F W v : Nat) (hn : n ≤ 18446744073709551615) (hF : F ≤ 64) (hW : W ≤ 64) (hv : v ≤ 18446744073709551615) :
    bits BinOp.or IntKind.u64 (bits BinOp.andNot IntKind.u64 (n : Int) (IntKind.u64.wrap (((2 ^ W - 1 : Nat) : Int) * 2 ^ F))) (bits BinOp.and IntKind.u64 (IntKind.u64.wrap ((v : Int) * 2 ^ F)) (IntKind.u64.wrap (((2 ^ W - 1 : Nat) : Int) * 2 ^ F))) = ((setN n F W v : Nat) : Int) := by
  have e : ∀ x : Nat, IntKind.u64.wrap ((x : Int) * 2 ^ F) = ((x * 2 ^ F % 18446744073709551616 : Nat) : Int) := by
    intro x
    rw [show (2 : Int) ^ F = ((2 ^ F : Nat) : Int) by simp, ← Int.natCast_mul, IntKind.wrap_u64]; rfl
  have hl : ∀ x : Nat, x % 18446744073709551616 < 18446744073709551616 := fun x => Nat.mod_lt _ (by omega)
  rw [e, e, bits_andNot_u64_nat _ _ (by omega) (hl _), bits_and_u64_nat _ _ (hl _) (hl _), bits_or_u64_nat]
  · rfl
  · exact Nat.lt_of_le_of_lt Nat.and_le_left (by omega)
  · exact Nat.lt_of_le_of_lt Nat.and_le_left (hl _)

set_option maxHeartbeats 400000 in
theorem set_any (n : Nat) (hn : n ≤ 18446744073709551615) (from_ wide : Int) (v : Nat) (hv : v ≤ 18446744073709551615) (w : World) : Calls Tryz.prog 97 #[.int .u64 n, .int .i64 from_, .int .i64 wide, .int .u64 v] w fun e w' => e = .returned (.int .u64 (setN n (clampN from_ 64) (clampN wide 64) v)) ∧ w = w' := by
  have hF := clampN_le from_ 64
  have hW := clampN_le wide 64
  generalize hf : clampN from_ 64 = F at hF ⊢
  generalize hw : clampN wide 64 = W at hW ⊢
  have Hf := Lib.hid hf; clear hf
  have Hw := Lib.hid hw; clear hw
  go_enter Tryz.func97, Tryz.ntmps97
  go_wp2_with fail
  refine (clamp_any from_ 64 _).mono ?_
  rintro e w1 ⟨rfl, rfl⟩
  rw [Hf.out]
  go_wp2_with fail
  refine (ones_any wide _).mono ?_
  rintro e w1 ⟨rfl, rfl⟩
  rw [Hw.out]
  go_wp2
  go_ret
  refine ⟨ret_int ?_, rfl⟩
  rw [← set_form n F W v hn hF hW hv]
  try rfl

end Go.Proofs.YtgpccgcppbdlpaaGreat

