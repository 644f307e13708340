/-
  Texts joined: MdN, MdC.
-/
import Derived.Test.YtgpccgcppbdlpaaGreatMdG
import Derived.Test.YtgpccgcppbdlpaaGreatMg09
import Derived.Test.YtgpccgcppbdlpaaGreatMg13
import Derived.Test.YtgpccgcppbdlpaaGreatMg11
/-
  The document's own num of layer 9.
-/
namespace Go.Proofs.YtgpccgcppbdlpaaGreat
open Go.RowKit
set_option linter.unusedVariables false
theorem rnum9_any (n : Nat) (hn : n ≤ 9223372036854775807) (wide : Nat) (hw : wide ≤ 8) (w : World) : Calls Tryz.prog 48 #[.int .i64 n, .int .i64 wide] w fun x w' => x = .returned (.string (Str (putL n wide))) ∧ Below w.heap.size w w' := by
  have hwr : IntKind.u64.wrap (n : Int) = (n : Int) := by simp only [IntKind.wrap_u64]; omega
  have hc : clampN (wide : Int) 8 = wide := by unfold clampN; split <;> omega
  have HP : Hid (∀ W, Calls Tryz.prog 87 #[.int .u64 n, .int .i64 wide] W fun e w' => e = .returned (.string (Str (putL n wide))) ∧ Below W.heap.size W w') := Lib.hid fun W => by
    have := rput_any n (by omega) wide W
    rw [hc] at this; exact this
  clear hc hw hn
  go_enter Tryz.func48, Tryz.ntmps48
  go_wp2_with (go_at_call 87; (with_reducible refine (HP.out _).mono ?_); rintro x w1 ⟨rfl, hb1⟩; have H1 := Lib.hid hb1; clear hb1)
  go_ret
  exact ⟨rfl, H1.out⟩
end Go.Proofs.YtgpccgcppbdlpaaGreat

/-
  The document's own sixteen and sources of layer 9.
-/
namespace Go.Proofs.YtgpccgcppbdlpaaGreat
open Go.RowKit
set_option linter.unusedVariables false
attribute [local go_sem ↓] ld_addr st_addr bld_addr adsLit_eq
attribute [local go_sem] ldr_addr str_addr row?_drewN_eq row?_drew_eq

set_option maxRecDepth 100000 in
set_option maxHeartbeats 1000000 in
theorem rsix_any (s : List UInt8) (hs : s.length ≤ 100000) (i : Nat) (h : i + 16 ≤ s.length) (w : World) :
    Calls Tryz.prog 90 #[.string (Str s), .int .i64 i] w fun x w' => x = .returned (.agg (adC (sixL s i)).toArray) ∧ Below w.heap.size w w' := by
  have hsz := Str_size s
  have h1 : (i : Int) ≤ (i : Int) + 16 := by omega
  have h2 : (i : Int) + 16 ≤ (s.length : Int) := by omega
  have h0 : (0 : Int) ≤ (i : Int) := by omega
  have h3 : (0 : Int) ≤ (i : Int) + 16 := by omega
  have ht : ((i : Int) + 16).toNat = i + 16 := by omega
  have hw : IntKind.i64.wrap ((i : Int) + 16) = (i : Int) + 16 := by simp only [IntKind.wrap_i64]; omega
  have hex : (Str s).extract i (i + 16) = Str ((s.drop i).take 16) := by rw [Str_extract, show i + 16 - i = 16 by omega]
  have hl16 : ((s.drop i).take 16).length = 16 := by simp; omega
  have HR : Hid (∀ W, Calls Tryz.prog 107 #[.string (Str ((s.drop i).take 16))] W fun e w' => e = .returned (.tuple #[.agg (adC (sixL s i)).toArray, .bool true]) ∧ Below W.heap.size W w') := Lib.hid fun W => rread_good true _ (by omega) (by rw [hl16]; rfl) (by rw [hl16]; rfl) W
  have hfok : fok (adC (sixL s i)).toArray 17 = true := fok_addr true _ (sixL_ok s i)
  have HL := Lib.hid (adC_length (sixL_ok s i))
  have H1 : ∀ v ∈ adC (sixL s i), v.oneCell' = true := addrC_one _ _
  have HO := Lib.hid H1
  clear H1
  generalize adC (sixL s i) = A at *
  generalize (s.drop i).take 16 = F at *
  clear hl16 h hs
  have H0 : Hid (ObjAt (w.alloc (.cells #[.bool false, .int .u8 0, .int .u8 0, .int .u8 0, .int .u8 0, .int .u8 0, .int .u8 0, .int .u8 0, .int .u8 0, .int .u8 0, .int .u8 0, .int .u8 0, .int .u8 0, .int .u8 0, .int .u8 0, .int .u8 0, .int .u8 0] 24)) w.heap.size #[.bool false, .int .u8 0, .int .u8 0, .int .u8 0, .int .u8 0, .int .u8 0, .int .u8 0, .int .u8 0, .int .u8 0, .int .u8 0, .int .u8 0, .int .u8 0, .int .u8 0, .int .u8 0, .int .u8 0, .int .u8 0, .int .u8 0] 24 ∧ Below w.heap.size w (w.alloc (.cells #[.bool false, .int .u8 0, .int .u8 0, .int .u8 0, .int .u8 0, .int .u8 0, .int .u8 0, .int .u8 0, .int .u8 0, .int .u8 0, .int .u8 0, .int .u8 0, .int .u8 0, .int .u8 0, .int .u8 0, .int .u8 0, .int .u8 0] 24))) := Lib.hid ⟨ObjAt.made w _ _, (Below.refl _ _).alloc (Nat.le_refl _) _⟩
  have hfm : ∀ W : World, free? (W.alloc (.cells #[.bool false, .int .u8 0, .int .u8 0, .int .u8 0, .int .u8 0, .int .u8 0, .int .u8 0, .int .u8 0, .int .u8 0, .int .u8 0, .int .u8 0, .int .u8 0, .int .u8 0, .int .u8 0, .int .u8 0, .int .u8 0, .int .u8 0] 24)) W.heap.size 0 17 = true := fun W => free_made W _ _ 17 (by simp)
  go_enter Tryz.func90, Tryz.ntmps90
  go_upto_region 1 with (fail)
  generalize w.alloc (.cells #[.bool false, .int .u8 0, .int .u8 0, .int .u8 0, .int .u8 0, .int .u8 0, .int .u8 0, .int .u8 0, .int .u8 0, .int .u8 0, .int .u8 0, .int .u8 0, .int .u8 0, .int .u8 0, .int .u8 0, .int .u8 0, .int .u8 0] 24) = W at H0 ⊢
  go_upto_region 2 with (go_at_call 107; (with_reducible refine (HR.out _).mono ?_); rintro x w1 ⟨rfl, hb1⟩; have G1 := Lib.hid (show ObjAt w1 w.heap.size #[.bool false, .int .u8 0, .int .u8 0, .int .u8 0, .int .u8 0, .int .u8 0, .int .u8 0, .int .u8 0, .int .u8 0, .int .u8 0, .int .u8 0, .int .u8 0, .int .u8 0, .int .u8 0, .int .u8 0, .int .u8 0, .int .u8 0] 24 ∧ Below w.heap.size w w1 from ⟨H0.out.1.below hb1 H0.out.1.lt, bstep H0.out.2 hb1⟩); clear hb1)
  have hm := aggW_row (cs := A) (hfm w1) HL.out
  have hlt := G1.out.1.lt
  have G2 : Hid (ObjAt (aggW (w1.alloc (.cells #[.bool false, .int .u8 0, .int .u8 0, .int .u8 0, .int .u8 0, .int .u8 0, .int .u8 0, .int .u8 0, .int .u8 0, .int .u8 0, .int .u8 0, .int .u8 0, .int .u8 0, .int .u8 0, .int .u8 0, .int .u8 0, .int .u8 0] 24)) w1.heap.size A) w.heap.size #[.bool false, .int .u8 0, .int .u8 0, .int .u8 0, .int .u8 0, .int .u8 0, .int .u8 0, .int .u8 0, .int .u8 0, .int .u8 0, .int .u8 0, .int .u8 0, .int .u8 0, .int .u8 0, .int .u8 0, .int .u8 0, .int .u8 0] 24 ∧ Below w.heap.size w (aggW (w1.alloc (.cells #[.bool false, .int .u8 0, .int .u8 0, .int .u8 0, .int .u8 0, .int .u8 0, .int .u8 0, .int .u8 0, .int .u8 0, .int .u8 0, .int .u8 0, .int .u8 0, .int .u8 0, .int .u8 0, .int .u8 0, .int .u8 0, .int .u8 0] 24)) w1.heap.size A)) := Lib.hid ⟨aggW_other (G1.out.1.alloc _) _ (by omega), aggW_below (G1.out.2.alloc (by omega) _) (by omega) _⟩
  clear hfm hlt
  generalize aggW (w1.alloc (.cells #[.bool false, .int .u8 0, .int .u8 0, .int .u8 0, .int .u8 0, .int .u8 0, .int .u8 0, .int .u8 0, .int .u8 0, .int .u8 0, .int .u8 0, .int .u8 0, .int .u8 0, .int .u8 0, .int .u8 0, .int .u8 0, .int .u8 0] 24)) w1.heap.size A = W2 at hm G2 ⊢
  have hf : free? W2 w.heap.size 0 17 = true := obj_free G2.out.1 (by simp)
  repeat (first | go_values | go_skip | go_guarded | go_step | go_upon | go_in)
  have q1 := aggW_row (cs := A) hf HL.out
  exact bodyPost_ret (results_cell Tryz.results90 rfl (ld_some q1 (ldr_addr _ _ _))) rfl ⟨rfl, aggW_below G2.out.2 (Nat.le_refl _) _⟩

theorem srcsL9_adsC (s : List UInt8) (i n : Nat) : adsC (srcsL9 s i (n + 1)) = adsC (srcsL9 s i n) ++ adC (sixL s (i + 16 * n)) := by
  unfold adsC srcsL9
  rw [List.range_succ]
  simp
/-- What sources tells. -/
def SrcM (w : World) (s : List UInt8) (i n : Nat) (x : Ending) (w' : World) : Prop := ∃ v l, x = .returned (.tuple #[v, .int .i64 (srcsE9 s i n)]) ∧ Below w.heap.size w w' ∧ (Ads w' v l ∧ AdT w' v) ∧ (srcsE9 s i n = 0 → l = srcsL9 s i n)
set_option maxRecDepth 100000 in
set_option maxHeartbeats 2000000 in
theorem rsources9s_any (s : List UInt8) (hs : s.length ≤ 100000) (i n : Nat) (hi : i ≤ 1000000) (hn : n ≤ 1000000) (w : World) :
    Calls Tryz.prog 91 #[.string (Str s), .int .i64 i, .int .i64 n] w fun x w' => SrcM w s i n x w' := by
  have hsz := Str_size s
  have w1' : IntKind.i64.wrap (16 * (n : Int)) = 16 * (n : Int) := by simp only [IntKind.wrap_i64]; omega
  have w2' : IntKind.i64.wrap ((i : Int) + 16 * (n : Int)) = (i : Int) + 16 * (n : Int) := by simp only [IntKind.wrap_i64]; omega
  by_cases h64 : 64 < n
  · have hE : srcsE9 s i n = 6 := by unfold srcsE9; rw [if_pos h64]
    have HE := Lib.hid hE
    clear hE
    have hd : (64 : Int) < (n : Int) := by omega
    clear h64
    go_enter Tryz.func91, Tryz.ntmps91
    go_wp2
    go_ret2
    exact ⟨_, [], by rw [HE.out]; rfl, (Below.refl _ _).alloc (Nat.le_refl _) _, AdT.lit w, fun h => absurd h (by rw [HE.out]; omega)⟩
  · have hd : ¬ (64 : Int) < (n : Int) := by omega
    by_cases he : s.length < i + 16 * n
    · have hE : srcsE9 s i n = 3 := by unfold srcsE9; rw [if_neg h64, if_pos he]
      have HE := Lib.hid hE
      clear hE
      have hd2 : (s.length : Int) < (i : Int) + 16 * (n : Int) := by omega
      clear h64 he
      go_enter Tryz.func91, Tryz.ntmps91
      go_wp2
      go_ret2
      exact ⟨_, [], by rw [HE.out]; rfl, (Below.refl _ _).alloc (Nat.le_refl _) _, AdT.lit w, fun h => absurd h (by rw [HE.out]; omega)⟩
    · have hE : srcsE9 s i n = 0 := by unfold srcsE9; rw [if_neg h64, if_neg he]
      have HE := Lib.hid hE
      clear hE
      have hd2 : ¬ (s.length : Int) < (i : Int) + 16 * (n : Int) := by omega
      obtain ⟨i0, hi0, hz0, hz1, hz2⟩ := info_parts info_ad
      have HF : Hid (∀ k, k < n → ∀ W, Calls Tryz.prog 90 #[.string (Str s), .int .i64 ((i : Int) + 16 * (k : Int))] W fun x w' => x = .returned (.agg (adC (sixL s (i + 16 * k))).toArray) ∧ Below W.heap.size W w') := Lib.hid fun k hk W => by
        have := rsix_any s hs (i + 16 * k) (by omega) W
        rw [show ((i + 16 * k : Nat) : Int) = (i : Int) + 16 * (k : Int) by omega] at this
        exact this
      go_enter Tryz.func91, Tryz.ntmps91
      go_wp2_with fail
      go_loopw [8, 9] (fun v q wr => ∃ k : Nat, k ≤ n ∧ q = .int .i64 k ∧ wr.ownsRow w.heap.size 24 17 v k (adsC (srcsL9 s i k)) ∧ Hid (Below w.heap.size w wr)) (fun _ q _ => n - (intOf q).toNat)
      case atStart => exact ⟨0, by omega, rfl, World.ownsRow_lit w #[] 0 (Nat.le_refl _) (by unfold maxLen; omega) (by simp), Lib.hid ((Below.refl _ _).alloc (Nat.le_refl _) _)⟩
      case round =>
        obtain ⟨k, hk, rfl, hown, HB⟩ := hrel
        have HO := Lib.hid hown
        clear hown
        by_cases hlt : k < n
        · have hk1 : (k : Int) < (n : Int) := by omega
          have hw1 : IntKind.i64.wrap ((k : Int) + 1) = (k : Int) + 1 := by simp only [IntKind.wrap_i64]; omega
          have hw2 : IntKind.i64.wrap (16 * (k : Int)) = 16 * (k : Int) := by simp only [IntKind.wrap_i64]; omega
          have hw3 : IntKind.i64.wrap ((i : Int) + 16 * (k : Int)) = (i : Int) + 16 * (k : Int) := by simp only [IntKind.wrap_i64]; omega
          have HF2 := Lib.hid (HF.out k hlt)
          have HS := Lib.hid (srcsL9_adsC s i k)
          have HL := Lib.hid (adC_length (sixL_ok s (i + 16 * k)))
          have hlit := adsLit_run _ (sixL_ok s (i + 16 * k))
          have H1 : Hid (∀ u ∈ adC (sixL s (i + 16 * k)), u.oneCell' = true) := Lib.hid (addrC_one _ _)
          generalize adC (sixL s (i + 16 * k)) = A at *
          go_wp2_with (first
            | (go_at_call 90; (with_reducible refine (HF2.out _).mono ?_); rintro x w1 ⟨rfl, hb1⟩; have G1 := Lib.hid hb1; clear hb1; have hown := own_below8 HO.out G1.out; have hz := Nat.le_trans HB.out.size G1.out.size; have hl17 := HL.out; have h1c := H1.out)
            | (at_builtin; refine wpList_append_own _ rfl _ _ 25 rfl w.heap.size 24 i0 (.agg #[.bool false, .int .u8 0, .int .u8 0, .int .u8 0, .int .u8 0, .int .u8 0, .int .u8 0, .int .u8 0, .int .u8 0, .int .u8 0, .int .u8 0, .int .u8 0, .int .u8 0, .int .u8 0, .int .u8 0, .int .u8 0, .int .u8 0]) 17 17 Tryz.underlying25 hi0 hz0 hz1 hz2 rfl (by decide) _ _ _ rfl (hown.alloc _) ⟨w1.heap.size, 0, none⟩ 1 1 A rfl hl17 (World.news_of_block (heap_alloc_new w1 _)) h1c (by unfold maxLen; omega) (by omega) (by simp; omega) ?_; intro v' w2 hown' hgrow hnil; have Hown := Lib.hid hown'; have Hgrow := Lib.hid hgrow; clear hown' hgrow hnil hown hz hl17 h1c))
          have hv := HO.out.2
          have H2 : Hid (Below w.heap.size w w2) := Lib.hid ((bstep HB.out G1.out).alloc (Nat.le_trans HB.out.size G1.out.size) _ |>.grown Hgrow.out (by have := Nat.le_trans HB.out.size G1.out.size; simp; omega) (fun q hq => by
            rcases hv with ⟨e1, _⟩ | ⟨g, cap, cur, e1, e2, _⟩
            · subst e1; cases hq
            · subst e1; cases hq; exact e2))
          clear hv
          go_roundw
          case rel => exact ⟨k + 1, by omega, by go_num, by rw [HS.out]; exact Hown.out, H2⟩
          case measure => simp [intOf]; omega
        · have hk1 : ¬ (k : Int) < (n : Int) := by omega
          have hkn : k = n := by omega
          go_wp2
          go_ret2
          exact ⟨_, srcsL9 s i n, by rw [HE.out]; rfl, HB.out, ⟨Ads.own (srcsL9_ok s i n) (by rw [srcsL9_length]; have := HO.out; rw [hkn] at this; exact this), AdT.own HO.out⟩, fun _ => rfl⟩
end Go.Proofs.YtgpccgcppbdlpaaGreat

