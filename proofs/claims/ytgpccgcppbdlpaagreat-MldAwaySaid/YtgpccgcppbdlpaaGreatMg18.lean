/-
  Texts joined: MgV, IgA.
-/
import Derived.Test.YtgpccgcppbdlpaaGreatMg00
import Derived.Test.YtgpccgcppbdlpaaGreatMgA
import Derived.Test.YtgpccgcppbdlpaaGreatMg10
import Derived.Test.YtgpccgcppbdlpaaGreatMg03
import Derived.Test.YtgpccgcppbdlpaaGreatMg01
import Derived.Test.YtgpccgcppbdlpaaGreatMg11
/-
  The contracts of mld's nums and addrs.
-/
namespace Go.Proofs.YtgpccgcppbdlpaaGreat
open Go.RowKit
set_option linter.unusedVariables false
set_option linter.unusedSimpArgs false
attribute [local go_sem ↓] ld_addr st_addr bld_addr
attribute [local go_sem] ldr_addr str_addr

theorem clamp9 (k : Nat) (h : k ≤ 8) : clampN (k : Int) 8 = k := by unfold clampN; split <;> omega
theorem putn_any (n : Nat) (hn : n < 18446744073709551616) (k : Nat) (hk : k ≤ 8) (w : World) : Calls Tryz.prog 60 #[.int .u64 n, .int .i64 k] w fun e w' => e = .returned (.string (Str (putL n k))) ∧ Below w.heap.size w w' := by
  have := put_any n hn k w
  rw [clamp9 k hk] at this
  exact this
/-- A slice of numbers. -/
def Ints (w : World) (v : Value) (l : List Nat) : Prop := ∃ g cap, v = .slice (some ⟨g, 0, none⟩) l.length cap ∧ l.length ≤ cap ∧ cap ≤ maxLen ∧ g < w.heap.size ∧ ∀ i (h : i < l.length), w.cell? ⟨g, i, none⟩ = some (.int .i64 (l[i] : Nat))
theorem Ints.below {w w' : World} {v : Value} {l : List Nat} (h : Ints w v l) (hb : Below w.heap.size w w') : Ints w' v l := by
  obtain ⟨g, cap, h1, h2, h3, h4, h5⟩ := h
  exact ⟨g, cap, h1, h2, h3, Nat.lt_of_lt_of_le h4 hb.size, fun i hi => (hb.cell (p := ⟨g, i, none⟩) h4).trans (h5 i hi)⟩
theorem Ints.lit1 (W : World) (a : Nat) : Ints (W.alloc (.cells #[.int .i64 a] 3)) (.slice (some ⟨W.heap.size, 0, none⟩) 1 1) [a] := by
  have hm := ObjAt.made W #[.int .i64 a] 3
  refine ⟨W.heap.size, 1, rfl, Nat.le_refl _, by decide, hm.lt, fun i hi => ?_⟩
  have h0 : i = 0 := by simp at hi; omega
  subst h0
  rw [ObjAt.cell hm]
  rfl
theorem Ints.lit2 (W : World) (a b : Nat) : Ints (W.alloc (.cells #[.int .i64 a, .int .i64 b] 3)) (.slice (some ⟨W.heap.size, 0, none⟩) 2 2) [a, b] := by
  have hm := ObjAt.made W #[.int .i64 a, .int .i64 b] 3
  refine ⟨W.heap.size, 2, rfl, Nat.le_refl _, by decide, hm.lt, fun i hi => ?_⟩
  have h0 : i = 0 ∨ i = 1 := by simp at hi; omega
  rcases h0 with rfl | rfl
  · rw [ObjAt.cell hm]; rfl
  · rw [ObjAt.cell hm]; rfl
theorem Ads.lit (W : World) (a : AD) (ho : adOk a) : Ads (W.alloc (.cells (adC a).toArray 24)) (.slice (some ⟨W.heap.size, 0, none⟩) 1 1) [a] := by
  have hm := ObjAt.made W (adC a).toArray 24
  refine ⟨some ⟨W.heap.size, 0, none⟩, 1, rfl, Nat.le_refl _, by decide, fun x hx => by rw [List.mem_singleton] at hx; subst hx; exact ho, fun _ => ⟨W.heap.size, 0, rfl, hm.lt, fun i hi => ?_⟩⟩
  have h0 : i = 0 := by simp at hi; omega
  subst h0
  exact obj_rowk (A := []) (M := adC a) (C := []) (by simpa using hm) rfl (adC_length ho)
/-- Numbers as bytes, k of each. -/
def numsL (k : Nat) (l : List Nat) : List UInt8 := (l.map (putL · k)).flatten
theorem numsL_succ {k i : Nat} {l : List Nat} (h : i < l.length) : numsL k (l.take (i + 1)) = numsL k (l.take i) ++ putL l[i] k := by
  unfold numsL
  rw [List.take_succ_eq_append_getElem h]
  simp only [List.map_append, List.map_cons, List.map_nil, List.flatten_append, List.flatten_cons, List.flatten_nil, List.append_nil]
theorem numsL_length (k : Nat) (l : List Nat) : (numsL k l).length = k * l.length := by
  unfold numsL
  induction l with
  | nil => rfl
  | cons a r ih => simp [putL_length] at ih ⊢; rw [ih]; rw [Nat.mul_add]; omega
theorem numsL1 (k a : Nat) : numsL k [a] = putL a k := by simp [numsL]
theorem numsL2 (k a b : Nat) : numsL k [a, b] = putL a k ++ putL b k := by simp [numsL]
set_option maxRecDepth 100000 in
set_option maxHeartbeats 2000000 in
theorem nums_any (kk : Nat) (hk1 : 1 ≤ kk) (hk8 : kk ≤ 8) (v : Value) (l : List Nat) (w : World) (h : Ints w v l) (hn : l ≠ []) (hlen : l.length ≤ 1000) (hb : ∀ x ∈ l, x ≤ 1000000000) :
    Calls Tryz.prog 20 #[.int .i64 kk, v] w fun x w' => x = .returned (.string (Str (numsL kk l))) ∧ Below w.heap.size w w' := by
  obtain ⟨g, cap, rfl, h1, h2, hgl, hc⟩ := h
  obtain ⟨n, hnn⟩ : ∃ n, n = l.length := ⟨_, rfl⟩
  have HN := Lib.hid hnn
  have h0 : 0 < n := by rw [hnn]; exact List.length_pos_iff.2 hn
  have HC : Hid (∀ W, Below w.heap.size w W → ∀ i (hi : i < l.length), W.cell? ⟨g, i, none⟩ = some (.int .i64 (l[i] : Nat))) := Lib.hid fun W hW i hi => (hW.cell (p := ⟨g, i, none⟩) hgl).trans (hc i hi)
  have HX := Lib.hid hb
  have HNE := Lib.hid hn
  rw [← hnn] at h1 hlen ⊢
  obtain ⟨m, hm⟩ : ∃ m, m = w.heap.size := ⟨_, rfl⟩
  have HMM : Hid (∀ W, Below m w W → m ≤ W.heap.size) := Lib.hid fun W h => by rw [hm]; exact h.size
  have HM := Lib.hid (ObjAt.made w #[.pointer none, .slice none 0 0] 85)
  have HMB := Lib.hid ((Below.refl w.heap.size w).alloc (Nat.le_refl _) (.cells #[.pointer none, .slice none 0 0] 85))
  rw [← hm] at HM HMB HC
  rw [← hm]
  have HMEQ := Lib.hid hm
  clear hc hb hnn hn hgl hm
  go_enter Tryz.func20, Tryz.ntmps20
  go_upto_region 2 with (fail)
  generalize w.alloc _ = W0 at HM HMB ⊢
  rw [← HMEQ.out]
  have H0 := Lib.hid (SB.new HM.out m)
  clear HM
  go_wp2_with fail
  go_loopw [10] (fun i wr => ∃ k : Nat, k ≤ n ∧ i = .int .i64 k ∧ Hid (SB m wr m (numsL kk (l.take k))) ∧ Hid (Below m w wr)) (fun i _ => n - (intOf i).toNat)
  case atStart => exact ⟨0, by omega, rfl, Lib.hid (by simpa [numsL] using H0.out), HMB⟩
  case round =>
    obtain ⟨k, hk, rfl, HS, HB⟩ := hrel
    by_cases hlt : k < n
    · have g1 : k < l.length := by rw [← HN.out]; exact hlt
      have c1 := HC.out _ HB.out k g1
      have HX1 := Lib.hid (HX.out _ (List.getElem_mem g1))
      have HT := Lib.hid (numsL_succ (k := kk) g1)
      have HP := Lib.hid (fun W => putn_any l[k] (by have := HX1.out; omega) kk hk8 W)
      have hw : IntKind.u64.wrap ((l[k] : Nat) : Int) = ((l[k] : Nat) : Int) := by simp only [IntKind.wrap_u64]; have := HX1.out; omega
      have HL : Hid ((numsL kk (l.take k)).length + (putL l[k] kk).length ≤ 1000000000) := Lib.hid (by
        rw [numsL_length, putL_length, List.length_take]
        have : kk * min k l.length ≤ 8 * 1000 := Nat.mul_le_mul hk8 (by omega)
        omega)
      have hd : decide ((k : Int) < (n : Int)) = true := by simp; omega
      have hk1 : (k : Int) < (n : Int) := by omega
      have hw1 : IntKind.i64.wrap ((k : Int) + 1) = (k : Int) + 1 := by simp only [IntKind.wrap_i64]; omega
      clear HX1
      generalize l[k] = x at *
      clear g1
      go_wp2_with (first
        | (go_at_call 60; (with_reducible refine (HP.out _).mono ?_); rintro e w1 ⟨rfl, hb1⟩; have H1 := Lib.hid (HS.out.below hb1); have K1 := Lib.hid (HB.out.trans (hb1.mono (HMM.out _ HB.out))); clear hb1)
        | (go_at_call 59; (with_reducible refine (sstr_any m m _ _ _ H1.out HL.out (HMM.out _ K1.out)).mono ?_); rintro e w2 ⟨rfl, h2, k2⟩; have H2 := Lib.hid h2; have K2 := Lib.hid (K1.out.trans (k2.blw (Nat.le_refl _) (Nat.le_refl _) (HMM.out _ K1.out))); clear h2 k2))
      go_roundw
      case rel => exact ⟨k + 1, by omega, by go_num, Lib.hid (by rw [HT.out]; exact H2.out), K2⟩
      case measure => simp [intOf]; omega
    · have hd : ¬ (k : Int) < (n : Int) := by omega
      have HV := Lib.hid (show l.take k = l from List.take_of_length_le (by rw [← HN.out]; omega))
      have HSV : Hid (SB m wr m (numsL kk l)) := Lib.hid (by have := HS.out; rw [HV.out] at this; exact this)
      have HTX := Lib.hid (stext_any wr HSV.out (fun e => by
        have h3 := numsL_length kk l
        rw [e] at h3
        have h4 : 1 * l.length ≤ kk * l.length := Nat.mul_le_mul_right _ hk1
        have h5 : 0 < l.length := List.length_pos_iff.2 HNE.out
        simp at h3
        omega) (by rw [numsL_length, ← HN.out]; have : kk * n ≤ 8 * 1000 := Nat.mul_le_mul hk8 hlen; omega))
      go_wp2_with (go_at_call 61; (with_reducible refine HTX.out.mono ?_); rintro e w3 ⟨rfl, hb3⟩; have K3 := Lib.hid (HB.out.trans hb3); clear hb3)
      go_ret
      exact ⟨rfl, K3.out⟩

theorem listL_ne {l : List AD} (h : ∀ a ∈ l, adOk a) (hn : l ≠ []) : listL l ≠ [] := by
  cases l with
  | nil => exact absurd rfl hn
  | cons a r =>
    intro e
    have h1 : adOk a := h a (by simp)
    have h2 : (adB a).length = 0 := by
      have := congrArg List.length e
      simp [listL] at this
      rw [this.1]; rfl
    obtain ⟨v, b⟩ := a
    have h3 : b.length = 16 := h1
    unfold adB bytesV at h2
    cases v <;> simp at h2 <;> first | omega | (rw [h2] at h3; simp at h3)
set_option maxRecDepth 100000 in
set_option maxHeartbeats 2000000 in
theorem addrs_any (v : Value) (ls : List AD) (w : World) (ha : Ads w v ls) (hls : ls.length ≤ 1000000) :
    Calls Tryz.prog 63 #[v] w fun x w' => x = .returned (.string (Str (listL ls))) ∧ Below w.heap.size w w' := by
  have HOK := Lib.hid ha.ok
  obtain ⟨m, hm⟩ : ∃ m, m = w.heap.size := ⟨_, rfl⟩
  have HMM : Hid (∀ W, Below m w W → m ≤ W.heap.size) := Lib.hid fun W h => by rw [hm]; exact h.size
  have HM := Lib.hid (ObjAt.made w #[.pointer none, .slice none 0 0] 85)
  have HMB := Lib.hid ((Below.refl w.heap.size w).alloc (Nat.le_refl _) (.cells #[.pointer none, .slice none 0 0] 85))
  obtain ⟨p, cap, rfl, h1, h2⟩ := ha.len
  by_cases h0 : ls.length = 0
  · have e1 : ls = [] := List.eq_nil_of_length_eq_zero h0
    subst e1
    rw [← hm] at HM HMB
    rw [← hm]
    have HMEQ := Lib.hid hm
    clear ha h1 h2 HOK hls hm
    go_enter Tryz.func63, Tryz.ntmps63
    go_upto_region 2 with (fail)
    generalize w.alloc _ = W0 at HM HMB ⊢
    rw [← HMEQ.out]
    have HTX := Lib.hid (stext_nil m W0 HM.out)
    go_wp2_with fail
    go_loop [8] (fun i => i = .int .i64 0) (fun _ => 0)
    case atStart => rfl
    case round =>
      subst hrel
      go_wp2_with (go_at_call 61; (with_reducible refine HTX.out.mono ?_); rintro e w3 ⟨rfl, rfl⟩)
      go_ret
      exact ⟨rfl, bdrewN HMB.out 1⟩
  · have na : ls ≠ [] := fun h => h0 (by rw [h]; rfl)
    obtain ⟨g, o, cap', e, _, _, hgl, Ra⟩ := ha.parts na
    simp only [Value.slice.injEq] at e
    obtain ⟨rfl, -, hcc⟩ := e
    subst hcc
    have HROW : Hid (∀ W, Below w.heap.size w W → ∀ i (hi : i < ls.length), row? W g (o + i * 17) 17 = some (adC ls[i])) := Lib.hid fun W hW i hi => row?_below (Ra i hi) hgl hW
    obtain ⟨n, hn⟩ : ∃ n, n = ls.length := ⟨_, rfl⟩
    have HN := Lib.hid hn
    have HNE := Lib.hid na
    rw [← hn] at h0 h1 hls ⊢
    rw [← hm] at HM HMB HROW
    rw [← hm]
    have HMEQ := Lib.hid hm
    clear ha na hgl Ra hn hm
    go_enter Tryz.func63, Tryz.ntmps63
    go_upto_region 2 with (fail)
    generalize w.alloc _ = W0 at HM HMB ⊢
    rw [← HMEQ.out]
    have H0 := Lib.hid (SB.new HM.out m)
    clear HM
    go_wp2_with fail
    go_loopw [8] (fun i wr => ∃ k : Nat, k ≤ n ∧ i = .int .i64 k ∧ Hid (SB m wr m (listL (ls.take k))) ∧ Hid (Below m w wr)) (fun i _ => n - (intOf i).toNat)
    case atStart => exact ⟨0, by omega, rfl, Lib.hid (by simpa [listL] using H0.out), HMB⟩
    case round =>
      obtain ⟨k, hk, rfl, HS, HB⟩ := hrel
      by_cases hlt : k < n
      · have g1 : k < ls.length := by rw [← HN.out]; exact hlt
        have r1 := HROW.out _ HB.out k g1
        have hoa := HOK.out _ (List.getElem_mem g1)
        have HBY : Hid (∀ W, Calls Tryz.prog 96 #[.agg (adC ls[k]).toArray] W fun x w' => x = .returned (.string (Str (adB ls[k]))) ∧ Below W.heap.size W w') := Lib.hid fun W => bytes_any ls[k].1 ls[k].2 hoa W
        have HT := Lib.hid (listL_succ g1)
        have hd : decide ((k : Int) < (n : Int)) = true := by simp; omega
        have hk1 : (k : Int) < (n : Int) := by omega
        have hw1 : IntKind.i64.wrap ((k : Int) + 1) = (k : Int) + 1 := by simp only [IntKind.wrap_i64]; omega
        have hfok : fok (adC ls[k]).toArray 17 = true := fok_addr _ _ hoa
        have hfm := free_made wr #[.bool false, .int .u8 0, .int .u8 0, .int .u8 0, .int .u8 0, .int .u8 0, .int .u8 0, .int .u8 0, .int .u8 0, .int .u8 0, .int .u8 0, .int .u8 0, .int .u8 0, .int .u8 0, .int .u8 0, .int .u8 0, .int .u8 0] 24 17 (by simp)
        have HMA : Hid (ObjAt (aggW (wr.alloc (.cells #[.bool false, .int .u8 0, .int .u8 0, .int .u8 0, .int .u8 0, .int .u8 0, .int .u8 0, .int .u8 0, .int .u8 0, .int .u8 0, .int .u8 0, .int .u8 0, .int .u8 0, .int .u8 0, .int .u8 0, .int .u8 0, .int .u8 0] 24)) wr.heap.size (adC ls[k])) wr.heap.size (adC ls[k]).toArray 24 ∧ Below wr.heap.size wr (aggW (wr.alloc (.cells #[.bool false, .int .u8 0, .int .u8 0, .int .u8 0, .int .u8 0, .int .u8 0, .int .u8 0, .int .u8 0, .int .u8 0, .int .u8 0, .int .u8 0, .int .u8 0, .int .u8 0, .int .u8 0, .int .u8 0, .int .u8 0, .int .u8 0] 24)) wr.heap.size (adC ls[k]))) := Lib.hid ⟨aggW_obj (L := [.bool false, .int .u8 0, .int .u8 0, .int .u8 0, .int .u8 0, .int .u8 0, .int .u8 0, .int .u8 0, .int .u8 0, .int .u8 0, .int .u8 0, .int .u8 0, .int .u8 0, .int .u8 0, .int .u8 0, .int .u8 0, .int .u8 0]) (ObjAt.made wr _ _) (by rw [adC_length hoa]; rfl) (addrC_one _ _), aggW_below ((Below.refl _ _).alloc (Nat.le_refl _) _) (Nat.le_refl _) _⟩
        have HLA := Lib.hid (adC_length hoa)
        have HL : Hid ((listL (ls.take k)).length + (adB ls[k]).length ≤ 1000000000) := Lib.hid (by
          have h3 := listL_le (l := ls.take k) (fun a ha => HOK.out a (List.mem_of_mem_take ha))
          have h4 := adB_le hoa
          rw [List.length_take] at h3
          omega)
        generalize adC ls[k] = A at *
        generalize adB ls[k] = B at *
        clear hoa g1
        go_upto_region 5 with (fail)
        generalize aggW (wr.alloc _) wr.heap.size _ = W1 at HMA ⊢
        have H1 := Lib.hid (HS.out.below HMA.out.2)
        have K1 := Lib.hid (HB.out.trans (HMA.out.2.mono (HMM.out _ HB.out)))
        have hr2 : row? W1 wr.heap.size 0 17 = some A := obj_rowk (A := []) (M := A) (C := []) (by simpa using HMA.out.1) rfl HLA.out
        clear hfm hfok r1
        go_wp2_with (first
          | (go_at_call 96; (with_reducible refine (HBY.out _).mono ?_); rintro e w1 ⟨rfl, hb1⟩; have H2 := Lib.hid (H1.out.below hb1); have K2 := Lib.hid (K1.out.trans (hb1.mono (HMM.out _ K1.out))); clear hb1)
          | (go_at_call 59; (with_reducible refine (sstr_any m m _ _ _ H2.out HL.out (HMM.out _ K2.out)).mono ?_); rintro e w2 ⟨rfl, h2, k2⟩; have H3 := Lib.hid h2; have K3 := Lib.hid (K2.out.trans (k2.blw (Nat.le_refl _) (Nat.le_refl _) (HMM.out _ K2.out))); clear h2 k2))
        go_roundw
        case rel => exact ⟨k + 1, by omega, by go_num, Lib.hid (by rw [HT.out]; exact H3.out), K3⟩
        case measure => simp [intOf]; omega
      · have hd : ¬ (k : Int) < (n : Int) := by omega
        have HV := Lib.hid (show ls.take k = ls from List.take_of_length_le (by rw [← HN.out]; omega))
        have HSV : Hid (SB m wr m (listL ls)) := Lib.hid (by have := HS.out; rw [HV.out] at this; exact this)
        have HTX := Lib.hid (stext_any wr HSV.out (listL_ne HOK.out HNE.out) (by have h3 := listL_le HOK.out; rw [← HN.out] at h3; omega))
        go_wp2_with (go_at_call 61; (with_reducible refine HTX.out.mono ?_); rintro e w3 ⟨rfl, hb3⟩; have K3 := Lib.hid (HB.out.trans hb3); clear hb3)
        go_ret
        exact ⟨rfl, K3.out⟩
end Go.Proofs.YtgpccgcppbdlpaaGreat

/-
  The contracts of igmp's within, zero, goodGroup, goodTarget, goodSources (with slices.ContainsFunc and its predicate), goodRecord, goodRecords.
-/
namespace Go.Proofs.YtgpccgcppbdlpaaGreat
open Go.RowKit
set_option linter.unusedVariables false
set_option linter.unusedSimpArgs false
attribute [local go_sem ↓] ld_addr st_addr bld_addr ld_rec st_rec
attribute [local go_sem] ldr_addr str_addr ldr_rec str_rec

/-- A record boxed, and what is read of it. -/
def RB8 (w W : World) (r : RC) (u : Value) : Prop := RcU W w.heap.size 0 r u ∧ Below w.heap.size w W
theorem RB8.below {w W W' : World} {r : RC} {u : Value} (h : RB8 w W r u) (hb : Below W.heap.size W W') : RB8 w W' r u := ⟨h.1.below hb, bstep h.2 hb⟩
theorem RB8.made (w : World) (r : RC) (u : Value) (ho : adOk r.g) (ha : Ads w u r.src) : RB8 w (w.alloc (.cells (rcC r u).toArray 62)) r u := by
  have hb : Below w.heap.size w (w.alloc (.cells (rcC r u).toArray 62)) := (Below.refl _ _).alloc (Nat.le_refl _) _
  refine ⟨⟨ho, by simp, ?_, ha.below hb⟩, hb⟩
  exact obj_rowk (A := []) (M := rcC r u) (C := []) (by simpa using ObjAt.made w (rcC r u).toArray 62) rfl (rcC_length ho u)
end Go.Proofs.YtgpccgcppbdlpaaGreat

