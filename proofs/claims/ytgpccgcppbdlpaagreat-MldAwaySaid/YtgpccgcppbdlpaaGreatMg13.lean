/-
  Texts joined: PureTkB, PureMdB, MdA.
-/
import Derived.Test.YtgpccgcppbdlpaaGreatMg10
import Derived.Test.YtgpccgcppbdlpaaGreatPureMd
/-
  Talks of IGMP, plain: what is read of some bytes is good.
-/
namespace Go.Proofs.YtgpccgcppbdlpaaGreat
open Go.RowKit
set_option linter.unusedVariables false

end Go.Proofs.YtgpccgcppbdlpaaGreat

/-
  Talks of MLD, plain: what is read of some bytes is good.
-/
namespace Go.Proofs.YtgpccgcppbdlpaaGreat
open Go.RowKit
set_option linter.unusedVariables false

theorem sixL_ok (s : List UInt8) (i : Nat) : adOk (sixL s i) := readV_length _ (by simp; omega)
theorem srcsL9_length (s : List UInt8) (i n : Nat) : (srcsL9 s i n).length = n := by unfold srcsL9; simp
theorem srcsL9_ok (s : List UInt8) (i n : Nat) : ∀ a ∈ srcsL9 s i n, adOk a := by
  intro a ha
  unfold srcsL9 at ha
  obtain ⟨k, _, rfl⟩ := List.mem_map.1 ha
  exact sixL_ok s _
end Go.Proofs.YtgpccgcppbdlpaaGreat

/-
  The document's own Group, zero, Sources and list of layer 9.
-/
namespace Go.Proofs.YtgpccgcppbdlpaaGreat
open Go.RowKit
set_option linter.unusedVariables false
attribute [local go_sem ↓] ld_addr st_addr bld_addr
attribute [local go_sem] ldr_addr str_addr row?_drewN_eq row?_drew_eq

set_option maxRecDepth 100000 in
set_option maxHeartbeats 1000000 in
theorem rgroup9_any (a : AD) (ho : adOk a) (w : World) : Calls Tryz.prog 34 #[.agg (adC a).toArray] w fun x w' => x = .returned (.bool (grp9 a)) ∧ Below w.heap.size w w' := by
  have H0 := Lib.hid (ABox.made w a)
  have HH := Lib.hid (fun W => rgroup_any a.1 a.2 ho W)
  have HK : Hid (∀ W, ABox w W a → row? W w.heap.size 0 17 = some (adC a) ∧ W.cell? ⟨w.heap.size, 0, none⟩ = some (.bool a.1)) := Lib.hid fun W h => ⟨h.row ho, h.v⟩
  obtain ⟨R, hR⟩ : ∃ R, R = grp9 a := ⟨_, rfl⟩
  rw [← hR]
  unfold grp9 at hR
  change Hid (∀ W, Calls Tryz.prog 76 #[.agg (adC a).toArray] W _) at HH
  generalize grpV a.1 a.2 = h at HH hR
  go_enter Tryz.func34, Tryz.ntmps34
  go_upto_region 1 with (fail)
  generalize w.alloc (.cells (adC a).toArray 24) = W at H0 ⊢
  obtain ⟨r1, c1⟩ := HK.out _ H0.out
  generalize a.1 = v at c1 hR HK
  have HR := Lib.hid hR
  clear hR
  cases v with
  | false =>
    go_wp2
    go_ret
    exact ⟨ret_bool8 (by rw [HR.out]; rfl), H0.out.2⟩
  | true =>
    go_wp2_with (go_at_call 76; (with_reducible refine (HH.out _).mono ?_); rintro x w2 ⟨rfl, hb2⟩; have H2 := Lib.hid (H0.out.below hb2); clear hb2)
    go_ret
    exact ⟨ret_bool8 (by rw [HR.out]; rfl), H2.out.2⟩
set_option maxRecDepth 100000 in
set_option maxHeartbeats 1000000 in
theorem rzero9_any (a : AD) (ho : adOk a) (w : World) : Calls Tryz.prog 37 #[.agg (adC a).toArray] w fun x w' => x = .returned (.bool (zer9 a)) ∧ Below w.heap.size w w' := by
  have H0 := Lib.hid (ABox.made w a)
  have HH := Lib.hid (fun W => rzero_any a.1 a.2 ho W)
  have HK : Hid (∀ W, ABox w W a → row? W w.heap.size 0 17 = some (adC a) ∧ W.cell? ⟨w.heap.size, 0, none⟩ = some (.bool a.1)) := Lib.hid fun W h => ⟨h.row ho, h.v⟩
  obtain ⟨R, hR⟩ : ∃ R, R = zer9 a := ⟨_, rfl⟩
  rw [← hR]
  unfold zer9 at hR
  change Hid (∀ W, Calls Tryz.prog 36 #[.agg (adC a).toArray] W _) at HH
  have hz : zeroV a.2 = decide (a.2 = z16) := rfl
  rw [← hz] at hR
  clear hz
  generalize zeroV a.2 = h at HH hR
  go_enter Tryz.func37, Tryz.ntmps37
  go_upto_region 1 with (fail)
  generalize w.alloc (.cells (adC a).toArray 24) = W at H0 ⊢
  obtain ⟨r1, c1⟩ := HK.out _ H0.out
  generalize a.1 = v at c1 hR HK
  have HR := Lib.hid hR
  clear hR
  cases v with
  | false =>
    go_wp2
    go_ret
    exact ⟨ret_bool8 (by rw [HR.out]; rfl), H0.out.2⟩
  | true =>
    go_wp2_with (go_at_call 36; (with_reducible refine (HH.out _).mono ?_); rintro x w2 ⟨rfl, hb2⟩; have H2 := Lib.hid (H0.out.below hb2); clear hb2)
    go_ret
    exact ⟨ret_bool8 (by rw [HR.out]; rfl), H2.out.2⟩
def isSix (a : AD) : Bool := a.1
theorem srcs9_eq (l : List AD) : srcs9 l = (l.all isSix && decide (l.length < 65)) := rfl
set_option maxRecDepth 100000 in
set_option maxHeartbeats 2000000 in
theorem rsources9_any (v : Value) (l : List AD) (w : World) (ha : Ads w v l) : Calls Tryz.prog 35 #[v] w fun x w' => x = .returned (.bool (srcs9 l)) ∧ Below w.heap.size w w' := by
  obtain ⟨p, cap, rfl, h1, h2⟩ := ha.len
  by_cases h0 : l.length = 0
  · have e1 : l = [] := List.eq_nil_of_length_eq_zero h0
    subst e1
    go_enter Tryz.func35, Tryz.ntmps35
    go_wp2_with fail
    go_loop [3] (fun i => i = .int .i64 0) (fun _ => 0)
    case atStart => rfl
    case round =>
      subst hrel
      go_wp2
      go_ret
      exact ⟨rfl, Below.refl _ _⟩
  · have na : l ≠ [] := fun h => h0 (by rw [h]; rfl)
    obtain ⟨b, o, cap', e, _, _, hbl, Ra⟩ := ha.parts na
    simp only [Value.slice.injEq] at e
    obtain ⟨rfl, _, rfl⟩ := e
    have OA := Lib.hid ha.ok
    have RA := Lib.hid Ra
    have HBL := Lib.hid hbl
    obtain ⟨n, hn⟩ : ∃ n, n = l.length := ⟨_, rfl⟩
    have hmx : n ≤ maxLen := by omega
    unfold maxLen at hmx
    obtain ⟨R, hR⟩ : ∃ R, R = srcs9 l := ⟨_, rfl⟩
    rw [← hR]
    rw [srcs9_eq] at hR
    rw [← hn] at hR h0 h1 ⊢
    have HR := Lib.hid hR
    have HN := Lib.hid hn
    clear Ra ha na hn hbl hR h1 h2
    go_enter Tryz.func35, Tryz.ntmps35
    go_wp2_with fail
    go_loopw [3] (fun i wr => ∃ k : Nat, k ≤ n ∧ i = .int .i64 k ∧ Hid ((l.take k).all isSix = true) ∧ Hid (Below w.heap.size w wr)) (fun i _ => n - (intOf i).toNat)
    case atStart => exact ⟨0, by omega, rfl, Lib.hid (by simp), Lib.hid (Below.refl _ _)⟩
    case round =>
      obtain ⟨k, hk, rfl, HT, HB⟩ := hrel
      by_cases hlt : k < n
      · have g1 : k < l.length := by rw [← HN.out]; exact hlt
        have r1 := row?_below (RA.out k g1) HBL.out HB.out
        have c1 := cells_ad r1
        have HS := Lib.hid (all_take_succ g1 isSix)
        have HF : Hid (isSix l[k] = false → l.all isSix = false) := Lib.hid fun h => by
          rw [← Bool.not_eq_true, List.all_eq_true]
          intro hx
          have := hx _ (List.getElem_mem g1)
          rw [h] at this
          exact absurd this (by simp)
        have hq : isSix l[k] = l[k].1 := rfl
        rw [hq] at HS HF
        clear hq
        have hd : decide ((k : Int) < (n : Int)) = true := by simp; omega
        have hk1 : (k : Int) < (n : Int) := by omega
        have hw1 : IntKind.i64.wrap ((k : Int) + 1) = (k : Int) + 1 := by simp only [IntKind.wrap_i64]; omega
        generalize adC l[k] = A at *
        generalize l[k].1 = v6 at *
        clear g1
        cases v6 with
        | false =>
          have HV := Lib.hid (show R = false by rw [HR.out, HF.out rfl]; rfl)
          go_wp2
          go_ret
          exact ⟨ret_bool8 (by rw [HV.out]), HB.out⟩
        | true =>
          have HV := Lib.hid (show (l.take (k + 1)).all isSix = true by rw [HS.out, HT.out]; rfl)
          go_wp2
          go_roundw
          case rel => exact ⟨k + 1, by omega, by go_num, HV, HB⟩
          case measure => simp [intOf]; omega
      · have hd : ¬ (k : Int) < (n : Int) := by omega
        have HV := Lib.hid (show R = decide ((n : Int) < 65) by
          have e := HT.out
          rw [List.take_of_length_le (by rw [← HN.out]; omega)] at e
          rw [HR.out, e, Bool.true_and, Bool.eq_iff_iff]
          simp; omega)
        go_wp2
        go_ret
        exact ⟨ret_bool8 (by rw [HV.out]), HB.out⟩
set_option maxRecDepth 100000 in
set_option maxHeartbeats 2000000 in
theorem rlist9_any (v : Value) (l : List AD) (w : World) (ha : Ads w v l) (hl : l.length ≤ 10000) : Calls Tryz.prog 50 #[v] w fun x w' => x = .returned (.string (Str (listL l))) ∧ Below w.heap.size w w' := by
  obtain ⟨p, cap, rfl, h1, h2⟩ := ha.len
  by_cases h0 : l.length = 0
  · have e1 : l = [] := List.eq_nil_of_length_eq_zero h0
    subst e1
    go_enter Tryz.func50, Tryz.ntmps50
    go_wp2_with fail
    go_loop [3, 4] (fun s i => i = .int .i64 0 ∧ s = .string ⟨#[]⟩) (fun _ _ => 0)
    case atStart => exact ⟨rfl, rfl⟩
    case round =>
      obtain ⟨rfl, rfl⟩ := hrel
      go_wp2
      go_ret
      exact ⟨rfl, Below.refl _ _⟩
  · have na : l ≠ [] := fun h => h0 (by rw [h]; rfl)
    obtain ⟨b, o, cap', e, _, _, hbl, Ra⟩ := ha.parts na
    simp only [Value.slice.injEq] at e
    obtain ⟨rfl, _, rfl⟩ := e
    have OA := Lib.hid ha.ok
    have RA := Lib.hid Ra
    have HBL := Lib.hid hbl
    have HLE := Lib.hid (fun k => listL_le (l := l.take k) (fun a h => ha.ok a (List.mem_of_mem_take h)))
    obtain ⟨n, hn⟩ : ∃ n, n = l.length := ⟨_, rfl⟩
    have hmx : n ≤ 10000 := by omega
    rw [← hn] at h0 ⊢
    have HN := Lib.hid hn
    clear Ra ha na hn hbl h1 h2 hl
    go_enter Tryz.func50, Tryz.ntmps50
    go_wp2_with fail
    go_loopw [3, 4] (fun s i wr => ∃ k : Nat, k ≤ n ∧ i = .int .i64 k ∧ s = .string (Str (listL (l.take k))) ∧ Hid (Below w.heap.size w wr)) (fun _ i _ => n - (intOf i).toNat)
    case atStart => exact ⟨0, by omega, rfl, rfl, Lib.hid (Below.refl _ _)⟩
    case round =>
      obtain ⟨k, hk, rfl, rfl, HB⟩ := hrel
      by_cases hlt : k < n
      · have g1 : k < l.length := by rw [← HN.out]; exact hlt
        have r1 := row?_below (RA.out k g1) HBL.out HB.out
        have HG : Hid (∀ W, Calls Tryz.prog 49 #[.agg (adC l[k]).toArray] W fun x w' => x = .returned (.string (Str (adB l[k]))) ∧ Below W.heap.size W w') := Lib.hid fun W => rbytes_any l[k].1 l[k].2 (OA.out _ (List.getElem_mem g1)) W
        have hc := listL_succ g1
        have hb16 := adB_le (OA.out _ (List.getElem_mem g1))
        have hle := HLE.out k
        rw [List.length_take, Nat.min_eq_left (by rw [← HN.out]; exact hk)] at hle
        have hrc := run_cat (P := Tryz.prog) (listL (l.take k)) (adB l[k]) (by omega)
        rw [← hc] at hrc
        have hd : decide ((k : Int) < (n : Int)) = true := by simp; omega
        have hk1 : (k : Int) < (n : Int) := by omega
        have hw1 : IntKind.i64.wrap ((k : Int) + 1) = (k : Int) + 1 := by simp only [IntKind.wrap_i64]; omega
        generalize adB l[k] = B at *
        generalize adC l[k] = A at *
        clear g1 hc hb16 hle
        generalize hX : listL (l.take (k + 1)) = X at hrc
        generalize listL (l.take k) = Y at *
        have HX := Lib.hid hX
        clear hX
        go_wp2_with (go_at_call 49; (with_reducible refine (HG.out _).mono ?_); rintro x w1 ⟨rfl, hb1⟩; have H1 := Lib.hid (bstep HB.out hb1); clear hb1)
        go_roundw
        case rel => exact ⟨k + 1, by omega, by go_num, by rw [HX.out], H1⟩
        case measure => simp [intOf]; omega
      · have hd : ¬ (k : Int) < (n : Int) := by omega
        have HV := Lib.hid (show listL (l.take k) = listL l by rw [List.take_of_length_le (by rw [← HN.out]; omega)])
        go_wp2
        go_ret
        exact ⟨by rw [← HV.out]; rfl, HB.out⟩
end Go.Proofs.YtgpccgcppbdlpaaGreat

