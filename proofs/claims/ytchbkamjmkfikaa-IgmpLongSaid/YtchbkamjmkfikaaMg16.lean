/-
  Texts joined: TkC, TkG, TkH, TkI, TkJ, TkK.
-/
import Derived.Test.YtchbkamjmkfikaaPureTk
import Derived.Test.YtchbkamjmkfikaaRread
import Derived.Deep.AppendLies
import Derived.Great.BuildSlice
/-
  The document's own four and sources of layer 8.
-/
namespace Go.Proofs.Ytchbkamjmkfikaa
open Go.RowKit
set_option linter.unusedVariables false
attribute [local go_sem ↓] ld_addr st_addr bld_addr
attribute [local go_sem] ldr_addr str_addr row?_drewN_eq row?_drew_eq

theorem fourL_ok (s : List UInt8) (i : Nat) : adOk (fourL s i) := readV_length _ (by simp; omega)
set_option maxRecDepth 100000 in
set_option maxHeartbeats 1000000 in
theorem rfour_any (s : List UInt8) (hs : s.length ≤ 100000) (i : Nat) (h : i + 4 ≤ s.length) (w : World) :
    Calls Try.prog 23 #[.string (Str s), .int .i64 i] w fun x w' => x = .returned (.agg (adC (fourL s i)).toArray) ∧ Below w.heap.size w w' := by
  have hsz := Str_size s
  have h1 : (i : Int) ≤ (i : Int) + 4 := by omega
  have h2 : (i : Int) + 4 ≤ (s.length : Int) := by omega
  have h0 : (0 : Int) ≤ (i : Int) := by omega
  have h3 : (0 : Int) ≤ (i : Int) + 4 := by omega
  have ht : ((i : Int) + 4).toNat = i + 4 := by omega
  have hw : IntKind.i64.wrap ((i : Int) + 4) = (i : Int) + 4 := by simp only [IntKind.wrap_i64]; omega
  have hex : (Str s).extract i (i + 4) = Str ((s.drop i).take 4) := by rw [Str_extract, show i + 4 - i = 4 by omega]
  have hl4 : ((s.drop i).take 4).length = 4 := by simp; omega
  have HR : Hid (∀ W, Calls Try.prog 64 #[.string (Str ((s.drop i).take 4))] W fun e w' => e = .returned (.tuple #[.agg (adC (fourL s i)).toArray, .bool true]) ∧ Below W.heap.size W w') := Lib.hid fun W => rread_good false _ (by omega) (by rw [hl4]; rfl) (by rw [hl4]; rfl) W
  have hfok : fok (adC (fourL s i)).toArray 17 = true := fok_addr false _ (fourL_ok s i)
  have HL := Lib.hid (adC_length (fourL_ok s i))
  have H1 : ∀ v ∈ adC (fourL s i), v.oneCell' = true := addrC_one _ _
  have HO := Lib.hid H1
  clear H1
  generalize adC (fourL s i) = A at *
  generalize (s.drop i).take 4 = F at *
  clear hl4 h hs
  have H0 : Hid (ObjAt (w.alloc (.cells #[.bool false, .int .u8 0, .int .u8 0, .int .u8 0, .int .u8 0, .int .u8 0, .int .u8 0, .int .u8 0, .int .u8 0, .int .u8 0, .int .u8 0, .int .u8 0, .int .u8 0, .int .u8 0, .int .u8 0, .int .u8 0, .int .u8 0] 25)) w.heap.size #[.bool false, .int .u8 0, .int .u8 0, .int .u8 0, .int .u8 0, .int .u8 0, .int .u8 0, .int .u8 0, .int .u8 0, .int .u8 0, .int .u8 0, .int .u8 0, .int .u8 0, .int .u8 0, .int .u8 0, .int .u8 0, .int .u8 0] 25 ∧ Below w.heap.size w (w.alloc (.cells #[.bool false, .int .u8 0, .int .u8 0, .int .u8 0, .int .u8 0, .int .u8 0, .int .u8 0, .int .u8 0, .int .u8 0, .int .u8 0, .int .u8 0, .int .u8 0, .int .u8 0, .int .u8 0, .int .u8 0, .int .u8 0, .int .u8 0] 25))) := Lib.hid ⟨ObjAt.made w _ _, (Below.refl _ _).alloc (Nat.le_refl _) _⟩
  have hfm : ∀ W : World, free? (W.alloc (.cells #[.bool false, .int .u8 0, .int .u8 0, .int .u8 0, .int .u8 0, .int .u8 0, .int .u8 0, .int .u8 0, .int .u8 0, .int .u8 0, .int .u8 0, .int .u8 0, .int .u8 0, .int .u8 0, .int .u8 0, .int .u8 0, .int .u8 0] 25)) W.heap.size 0 17 = true := fun W => free_made W _ _ 17 (by simp)
  go_enter Try.func23, Try.ntmps23
  go_upto_region 1 with (fail)
  generalize w.alloc (.cells #[.bool false, .int .u8 0, .int .u8 0, .int .u8 0, .int .u8 0, .int .u8 0, .int .u8 0, .int .u8 0, .int .u8 0, .int .u8 0, .int .u8 0, .int .u8 0, .int .u8 0, .int .u8 0, .int .u8 0, .int .u8 0, .int .u8 0] 25) = W at H0 ⊢
  go_upto_region 2 with (go_at_call 64; (with_reducible refine (HR.out _).mono ?_); rintro x w1 ⟨rfl, hb1⟩; have G1 := Lib.hid (show ObjAt w1 w.heap.size #[.bool false, .int .u8 0, .int .u8 0, .int .u8 0, .int .u8 0, .int .u8 0, .int .u8 0, .int .u8 0, .int .u8 0, .int .u8 0, .int .u8 0, .int .u8 0, .int .u8 0, .int .u8 0, .int .u8 0, .int .u8 0, .int .u8 0] 25 ∧ Below w.heap.size w w1 from ⟨H0.out.1.below hb1 H0.out.1.lt, bstep H0.out.2 hb1⟩); clear hb1)
  have hm := aggW_row (cs := A) (hfm w1) HL.out
  have hlt := G1.out.1.lt
  have G2 : Hid (ObjAt (aggW (w1.alloc (.cells #[.bool false, .int .u8 0, .int .u8 0, .int .u8 0, .int .u8 0, .int .u8 0, .int .u8 0, .int .u8 0, .int .u8 0, .int .u8 0, .int .u8 0, .int .u8 0, .int .u8 0, .int .u8 0, .int .u8 0, .int .u8 0, .int .u8 0] 25)) w1.heap.size A) w.heap.size #[.bool false, .int .u8 0, .int .u8 0, .int .u8 0, .int .u8 0, .int .u8 0, .int .u8 0, .int .u8 0, .int .u8 0, .int .u8 0, .int .u8 0, .int .u8 0, .int .u8 0, .int .u8 0, .int .u8 0, .int .u8 0, .int .u8 0] 25 ∧ Below w.heap.size w (aggW (w1.alloc (.cells #[.bool false, .int .u8 0, .int .u8 0, .int .u8 0, .int .u8 0, .int .u8 0, .int .u8 0, .int .u8 0, .int .u8 0, .int .u8 0, .int .u8 0, .int .u8 0, .int .u8 0, .int .u8 0, .int .u8 0, .int .u8 0, .int .u8 0] 25)) w1.heap.size A)) := Lib.hid ⟨aggW_other (G1.out.1.alloc _) _ (by omega), aggW_below (G1.out.2.alloc (by omega) _) (by omega) _⟩
  clear hfm hlt
  generalize aggW (w1.alloc (.cells #[.bool false, .int .u8 0, .int .u8 0, .int .u8 0, .int .u8 0, .int .u8 0, .int .u8 0, .int .u8 0, .int .u8 0, .int .u8 0, .int .u8 0, .int .u8 0, .int .u8 0, .int .u8 0, .int .u8 0, .int .u8 0, .int .u8 0] 25)) w1.heap.size A = W2 at hm G2 ⊢
  have hf : free? W2 w.heap.size 0 17 = true := obj_free G2.out.1 (by simp)
  repeat (first | go_values | go_skip | go_guarded | go_step | go_upon | go_in)
  have q1 := aggW_row (cs := A) hf HL.out
  exact bodyPost_ret (results_cell Try.results23 rfl (ld_some q1 (ldr_addr _ _ _))) rfl ⟨rfl, aggW_below G2.out.2 (Nat.le_refl _) _⟩

/-- A row of addresses of one's own. -/
def adsC (l : List AD) : List Value := (l.map adC).flatten
theorem adsC_length {l : List AD} (h : ∀ a ∈ l, adOk a) : (adsC l).length = l.length * 17 := by
  induction l with
  | nil => rfl
  | cons a r ih =>
    have h1 := adC_length (h a (by simp))
    have h2 := ih (fun b hb => h b (by simp [hb]))
    unfold adsC at h2 ⊢
    simp at h2 ⊢
    omega
theorem adsC_get {l : List AD} (h : ∀ a ∈ l, adOk a) : ∀ (i j : Nat) (hi : i < l.length), j < 17 → (adsC l)[i * 17 + j]? = (adC l[i])[j]? := by
  induction l with
  | nil => intro i j hi; exact absurd hi (by simp)
  | cons a r ih =>
    intro i j hi hj
    have h1 := adC_length (h a (by simp))
    have e : adsC (a :: r) = adC a ++ adsC r := by simp [adsC]
    rw [e]
    cases i with
    | zero => rw [Nat.zero_mul, Nat.zero_add, List.getElem?_append_left (by omega)]; rfl
    | succ i =>
      rw [List.getElem?_append_right (by omega), h1, show (i + 1) * 17 + j - 17 = i * 17 + j by omega]
      exact ih (fun b hb => h b (by simp [hb])) i j (by simpa using hi) hj
theorem Ads.own {w : World} {base : Nat} {v : Value} {l : List AD} (ho : ∀ a ∈ l, adOk a) (h : w.ownsRow base 25 17 v l.length (adsC l)) : Ads w v l := by
  obtain ⟨h1, h2 | ⟨g, cap, cur, rfl, h3, h4, h5, h6, h7, h8⟩⟩ := h
  · obtain ⟨rfl, h2⟩ := h2
    have : l = [] := List.eq_nil_of_length_eq_zero h2
    subst this
    exact Ads.nil w
  · refine ⟨some ⟨g, 0, none⟩, cap, rfl, h5, h6, ho, fun hn => ⟨g, 0, rfl, (Array.getElem?_eq_some_iff.1 h4).1, fun i hi => ?_⟩⟩
    have hob : ObjAt w g cur 25 := h4
    have hr : w.rangeAt g (0 + i * 17) (adC l[i]) := fun j u hu => by
      have hj : j < 17 := by
        have := (List.getElem?_eq_some_iff.1 hu).1
        rw [adC_length (ho _ (List.getElem_mem hi))] at this
        exact this
      rw [ObjAt.cell hob, ← Array.getElem?_toList]
      have e1 := adsC_get ho i j hi hj
      rw [hu, ← h8, List.getElem?_take] at e1
      rw [Nat.zero_add]
      split at e1
      · exact e1
      · cases e1
    have := row?_of hr
    rw [adC_length (ho _ (List.getElem_mem hi))] at this
    exact this
theorem srcsL_length (s : List UInt8) (i n : Nat) : (srcsL s i n).length = n := by unfold srcsL; simp
theorem srcsL_ok (s : List UInt8) (i n : Nat) : ∀ a ∈ srcsL s i n, adOk a := by
  intro a ha
  unfold srcsL at ha
  obtain ⟨k, _, rfl⟩ := List.mem_map.1 ha
  exact fourL_ok s _
theorem srcsL_succ (s : List UInt8) (i n : Nat) : adsC (srcsL s i (n + 1)) = adsC (srcsL s i n) ++ adC (fourL s (i + 4 * n)) := by
  unfold adsC srcsL
  rw [List.range_succ]
  simp
theorem own_below8 {w w' : World} {base : Nat} {e : TypeId} {size : Nat} {v : Value} {n : Nat} {xs : List Value} (h : w.ownsRow base e size v n xs) (hb : Below w.heap.size w w') : w'.ownsRow base e size v n xs := by
  obtain ⟨h1, h2 | ⟨g, cap, cur, e1, e2, e3, e4⟩⟩ := h
  · exact ⟨h1, .inl h2⟩
  · exact ⟨h1, .inr ⟨g, cap, cur, e1, e2, (hb.block g (Array.getElem?_eq_some_iff.1 e3).1).trans e3, e4⟩⟩
/-- A slice literal of one address, as one step. -/
noncomputable def adsLit (p : Array (Nat × Value)) : Sem Value := Instr.buildSlice 26 1 p
theorem adsLit_eq (p : Array (Nat × Value)) : Instr.buildSlice 26 1 p = adsLit p := rfl
attribute [local go_sem ↓] adsLit_eq
theorem info_ad : (Try.prog.info? 25).map (fun i => (i.zero, i.size, i.bytes)) = some (some (.agg #[.bool false, .int .u8 0, .int .u8 0, .int .u8 0, .int .u8 0, .int .u8 0, .int .u8 0, .int .u8 0, .int .u8 0, .int .u8 0, .int .u8 0, .int .u8 0, .int .u8 0, .int .u8 0, .int .u8 0, .int .u8 0, .int .u8 0]), 17, 17) := by kernel_rfl
theorem adsLit_run (a : AD) (ho : adOk a) (w : World) : (adsLit #[(0, .agg (adC a).toArray)]).run Try.prog w = .ok (.slice (some ⟨w.heap.size, 0, none⟩) 1 1) (w.alloc (.cells (adC a).toArray 25)) := by
  obtain ⟨i0, hi0, hz0, hz1, hz2⟩ := info_parts info_ad
  obtain ⟨v, l⟩ := a
  obtain ⟨b0, b1, b2, b3, b4, b5, b6, b7, b8, b9, ba, bb, bc, bd, be, bf, e⟩ := list16 (show l.length = 16 from ho)
  subst e
  refine run_buildSlice w 26 25 1 _ _ i0 _ Try.underlying26 hi0 hz0 (by rw [hz1]; decide) (by rw [hz1]; decide) ?_
  rw [hz1]
  kernel_rfl
/-- A slice of addresses whose block holds addresses. -/
def AdT (w : World) (v : Value) : Prop := ∀ (b o n c : Nat), v = .slice (some ⟨b, o, none⟩) n c → b < w.heap.size ∧ ∃ cur fz, w.heap[b]? = some (.cells cur 25 fz)
theorem AdT.below {w w' : World} {v : Value} (h : AdT w v) (hb : Below w.heap.size w w') : AdT w' v := fun b o n c e => by
  obtain ⟨h1, cur, fz, h2⟩ := h b o n c e
  exact ⟨Nat.lt_of_lt_of_le h1 hb.size, cur, fz, (hb.block b h1).trans h2⟩
theorem AdT.own {w : World} {base : Nat} {v : Value} {n : Nat} {xs : List Value} (h : w.ownsRow base 25 17 v n xs) : AdT w v := fun b o n' c e => by
  obtain ⟨h1, h2 | ⟨g, cap, cur, rfl, h3, h4, h5, h6, h7, h8⟩⟩ := h
  · rw [h2.1] at e; cases e
  · simp only [Value.slice.injEq, Option.some.injEq, Addr.mk.injEq] at e
    obtain ⟨⟨rfl, _⟩, _⟩ := e
    exact ⟨(Array.getElem?_eq_some_iff.1 h4).1, cur, _, h4⟩
/-- What sources tells. -/
def SrcP (w : World) (s : List UInt8) (i n : Nat) (x : Ending) (w' : World) : Prop := ∃ v l, x = .returned (.tuple #[v, .int .i64 (srcsE s i n)]) ∧ Below w.heap.size w w' ∧ (Ads w' v l ∧ AdT w' v) ∧ (srcsE s i n = 0 → l = srcsL s i n)
theorem AdT.lit (w : World) : Ads (w.alloc (.cells #[] 25)) (.slice (some ⟨w.heap.size, 0, none⟩) 0 0) [] ∧ AdT (w.alloc (.cells #[] 25)) (.slice (some ⟨w.heap.size, 0, none⟩) 0 0) := by
  have h := World.ownsRow_lit w (e := 25) (size := 17) #[] 0 (Nat.le_refl _) (by unfold maxLen; omega) (by simp)
  exact ⟨Ads.own (l := []) (fun a h => by cases h) h, AdT.own h⟩
set_option maxRecDepth 100000 in
set_option maxHeartbeats 2000000 in
theorem rsources_any (s : List UInt8) (hs : s.length ≤ 100000) (i n : Nat) (hi : i ≤ 1000000) (hn : n ≤ 1000000) (w : World) :
    Calls Try.prog 63 #[.string (Str s), .int .i64 i, .int .i64 n] w fun x w' => SrcP w s i n x w' := by
  have hsz := Str_size s
  have w1' : IntKind.i64.wrap (4 * (n : Int)) = 4 * (n : Int) := by simp only [IntKind.wrap_i64]; omega
  have w2' : IntKind.i64.wrap ((i : Int) + 4 * (n : Int)) = (i : Int) + 4 * (n : Int) := by simp only [IntKind.wrap_i64]; omega
  by_cases h64 : 64 < n
  · have hE : srcsE s i n = 6 := by unfold srcsE; rw [if_pos h64]
    have HE := Lib.hid hE
    clear hE
    have hd : (64 : Int) < (n : Int) := by omega
    clear h64
    go_enter Try.func63, Try.ntmps63
    go_wp2
    go_ret2
    exact ⟨_, [], by rw [HE.out]; rfl, (Below.refl _ _).alloc (Nat.le_refl _) _, AdT.lit w, fun h => absurd h (by rw [HE.out]; omega)⟩
  · have hd : ¬ (64 : Int) < (n : Int) := by omega
    by_cases he : s.length < i + 4 * n
    · have hE : srcsE s i n = 3 := by unfold srcsE; rw [if_neg h64, if_pos he]
      have HE := Lib.hid hE
      clear hE
      have hd2 : (s.length : Int) < (i : Int) + 4 * (n : Int) := by omega
      clear h64 he
      go_enter Try.func63, Try.ntmps63
      go_wp2
      go_ret2
      exact ⟨_, [], by rw [HE.out]; rfl, (Below.refl _ _).alloc (Nat.le_refl _) _, AdT.lit w, fun h => absurd h (by rw [HE.out]; omega)⟩
    · have hE : srcsE s i n = 0 := by unfold srcsE; rw [if_neg h64, if_neg he]
      have HE := Lib.hid hE
      clear hE
      have hd2 : ¬ (s.length : Int) < (i : Int) + 4 * (n : Int) := by omega
      obtain ⟨i0, hi0, hz0, hz1, hz2⟩ := info_parts info_ad
      have HF : Hid (∀ k, k < n → ∀ W, Calls Try.prog 23 #[.string (Str s), .int .i64 ((i : Int) + 4 * (k : Int))] W fun x w' => x = .returned (.agg (adC (fourL s (i + 4 * k))).toArray) ∧ Below W.heap.size W w') := Lib.hid fun k hk W => by
        have := rfour_any s hs (i + 4 * k) (by omega) W
        rw [show ((i + 4 * k : Nat) : Int) = (i : Int) + 4 * (k : Int) by omega] at this
        exact this
      go_enter Try.func63, Try.ntmps63
      go_wp2_with fail
      go_loopw [8, 9] (fun v q wr => ∃ k : Nat, k ≤ n ∧ q = .int .i64 k ∧ wr.ownsRow w.heap.size 25 17 v k (adsC (srcsL s i k)) ∧ Hid (Below w.heap.size w wr)) (fun _ q _ => n - (intOf q).toNat)
      case atStart => exact ⟨0, by omega, rfl, World.ownsRow_lit w #[] 0 (Nat.le_refl _) (by unfold maxLen; omega) (by simp), Lib.hid ((Below.refl _ _).alloc (Nat.le_refl _) _)⟩
      case round =>
        obtain ⟨k, hk, rfl, hown, HB⟩ := hrel
        have HO := Lib.hid hown
        clear hown
        by_cases hlt : k < n
        · have hk1 : (k : Int) < (n : Int) := by omega
          have hw1 : IntKind.i64.wrap ((k : Int) + 1) = (k : Int) + 1 := by simp only [IntKind.wrap_i64]; omega
          have hw2 : IntKind.i64.wrap (4 * (k : Int)) = 4 * (k : Int) := by simp only [IntKind.wrap_i64]; omega
          have hw3 : IntKind.i64.wrap ((i : Int) + 4 * (k : Int)) = (i : Int) + 4 * (k : Int) := by simp only [IntKind.wrap_i64]; omega
          have HF2 := Lib.hid (HF.out k hlt)
          have HS := Lib.hid (srcsL_succ s i k)
          have HL := Lib.hid (adC_length (fourL_ok s (i + 4 * k)))
          have hlit := adsLit_run _ (fourL_ok s (i + 4 * k))
          have H1 : Hid (∀ u ∈ adC (fourL s (i + 4 * k)), u.oneCell' = true) := Lib.hid (addrC_one _ _)
          generalize adC (fourL s (i + 4 * k)) = A at *
          go_wp2_with (first
            | (go_at_call 23; (with_reducible refine (HF2.out _).mono ?_); rintro x w1 ⟨rfl, hb1⟩; have G1 := Lib.hid hb1; clear hb1; have hown := own_below8 HO.out G1.out; have hz := Nat.le_trans HB.out.size G1.out.size; have hl17 := HL.out; have h1c := H1.out)
            | (at_builtin; refine wpList_append_own _ rfl _ _ 26 rfl w.heap.size 25 i0 (.agg #[.bool false, .int .u8 0, .int .u8 0, .int .u8 0, .int .u8 0, .int .u8 0, .int .u8 0, .int .u8 0, .int .u8 0, .int .u8 0, .int .u8 0, .int .u8 0, .int .u8 0, .int .u8 0, .int .u8 0, .int .u8 0, .int .u8 0]) 17 17 Try.underlying26 hi0 hz0 hz1 hz2 rfl (by decide) _ _ _ rfl (hown.alloc _) ⟨w1.heap.size, 0, none⟩ 1 1 A rfl hl17 (World.news_of_block (heap_alloc_new w1 _)) h1c (by unfold maxLen; omega) (by omega) (by simp; omega) ?_; intro v' w2 hown' hgrow hnil; have Hown := Lib.hid hown'; have Hgrow := Lib.hid hgrow; clear hown' hgrow hnil hown hz hl17 h1c))
          have hv := HO.out.2
          have H2 : Hid (Below w.heap.size w w2) := Lib.hid ((bstep HB.out G1.out).alloc (Nat.le_trans HB.out.size G1.out.size) _ |>.grown Hgrow.out (by have := Nat.le_trans HB.out.size G1.out.size; simp; omega) (fun q hq => by
            rcases hv with ⟨e1, _⟩ | ⟨g, cap, cur, e1, e2, _⟩
            · subst e1; cases hq
            · subst e1; cases hq; exact e2))
          clear hv
          go_roundw
          case rel => exact ⟨k + 1, by omega, by go_num, by rw [HS.out]; exact Hown.out, H2⟩
          case measure => simp [intOf]; omega
        · have hk1 : ¬ (k : Int) < (n : Int) := by omega
          have hkn : k = n := by omega
          go_wp2
          go_ret2
          exact ⟨_, srcsL s i n, by rw [HE.out]; rfl, HB.out, ⟨Ads.own (srcsL_ok s i n) (by rw [srcsL_length]; have := HO.out; rw [hkn] at this; exact this), AdT.own HO.out⟩, fun _ => rfl⟩
end Go.Proofs.Ytchbkamjmkfikaa

/-
  The document's own Good of layer 8, but for reports of version 3.
-/
namespace Go.Proofs.Ytchbkamjmkfikaa
open Go.RowKit
set_option linter.unusedVariables false
attribute [local go_sem ↓] ld_addr st_addr bld_addr
attribute [local go_sem] ldr_addr str_addr

theorem bld_zeroA (w0 : World) : (aggBuild 25 #[]).run Try.prog w0 = .ok (.agg (adC zeroA).toArray) w0 := bld_run _ _ _ (by kernel_rfl) _
/-- The talk boxed, the zero address behind it. -/
def GD (w W : World) (t : TK) (us ur : Value) : Prop := TkAt W w.heap.size t us ur ∧ ObjAt W (w.heap.size + 1) (adC zeroA).toArray 25 ∧ Below w.heap.size w W
theorem GD.made (w : World) (t : TK) (us ur : Value) (h : adOk t.g) : GD w (aggW ((w.alloc (.cells (tkC t us ur).toArray 29)).alloc (.cells #[.bool false, .int .u8 0, .int .u8 0, .int .u8 0, .int .u8 0, .int .u8 0, .int .u8 0, .int .u8 0, .int .u8 0, .int .u8 0, .int .u8 0, .int .u8 0, .int .u8 0, .int .u8 0, .int .u8 0, .int .u8 0, .int .u8 0] 25)) (w.heap.size + 1) (adC zeroA)) t us ur := by
  have s1 : (w.alloc (.cells (tkC t us ur).toArray 29)).heap.size = w.heap.size + 1 := by simp
  have h1 := (ObjAt.made (w.alloc (.cells (tkC t us ur).toArray 29)) #[.bool false, .int .u8 0, .int .u8 0, .int .u8 0, .int .u8 0, .int .u8 0, .int .u8 0, .int .u8 0, .int .u8 0, .int .u8 0, .int .u8 0, .int .u8 0, .int .u8 0, .int .u8 0, .int .u8 0, .int .u8 0, .int .u8 0] 25)
  rw [s1] at h1
  refine ⟨⟨aggW_other (ObjAt.alloc (TkAt.made w t us ur h).1 _) _ (by omega), h⟩, aggW_obj (L := adC zeroA) h1 rfl (addrC_one _ _), aggW_below (((Below.refl _ _).alloc (Nat.le_refl _) _).alloc (by simp) _) (by omega) _⟩
theorem GD.below {w W W' : World} {t : TK} {us ur : Value} (h : GD w W t us ur) (hb : Below W.heap.size W W') : GD w W' t us ur := ⟨h.1.below hb, h.2.1.below hb h.2.1.lt, bstep h.2.2 hb⟩
/-- What Good reads. -/
def GC (w W : World) (t : TK) (us ur : Value) : Prop :=
  W.cell? ⟨w.heap.size, 0, none⟩ = some (.bool t.v6) ∧ W.cell? ⟨w.heap.size, 1, none⟩ = some (.int .i64 t.ver) ∧ W.cell? ⟨w.heap.size, 2, none⟩ = some (.int .i64 t.kind) ∧ W.cell? ⟨w.heap.size, 3, none⟩ = some (.int .i64 t.resp) ∧ row? W w.heap.size 4 17 = some (adC t.g) ∧ W.cell? ⟨w.heap.size, 21, none⟩ = some (.bool t.quiet) ∧ W.cell? ⟨w.heap.size, 22, none⟩ = some (.int .i64 t.rob) ∧ W.cell? ⟨w.heap.size, 23, none⟩ = some (.int .i64 t.every) ∧ W.cell? ⟨w.heap.size, 24, none⟩ = some us ∧ W.cell? ⟨w.heap.size, 25, none⟩ = some ur ∧ row? W (w.heap.size + 1) 0 17 = some (adC zeroA)
theorem GD.cells {w W : World} {t : TK} {us ur : Value} (h : GD w W t us ur) : GC w W t us ur :=
  ⟨h.1.v6, h.1.ver, h.1.kind, h.1.resp, h.1.rg, h.1.quiet, h.1.rob, h.1.every, h.1.us, h.1.ur, obj_rowk (A := []) (M := adC zeroA) (C := []) (by simpa using h.2.1) rfl (adC_length zeroA_ok)⟩


end Go.Proofs.Ytchbkamjmkfikaa

/-
  The document's own Good of layer 8: elder versions.
-/
namespace Go.Proofs.Ytchbkamjmkfikaa
open Go.RowKit
set_option linter.unusedVariables false
set_option linter.unusedSimpArgs false
attribute [local go_sem ↓] ld_addr st_addr bld_addr
attribute [local go_sem] ldr_addr str_addr


end Go.Proofs.Ytchbkamjmkfikaa

/-
  The document's own Good of layer 8: queries.
-/
namespace Go.Proofs.Ytchbkamjmkfikaa
open Go.RowKit
set_option linter.unusedVariables false
set_option linter.unusedSimpArgs false
attribute [local go_sem ↓] ld_addr st_addr bld_addr
attribute [local go_sem] ldr_addr str_addr


end Go.Proofs.Ytchbkamjmkfikaa

/-
  Records loaded and stored whole, and the document's own Good of a report of version 3.
-/
namespace Go.Proofs.Ytchbkamjmkfikaa
open Go.RowKit
set_option linter.unusedVariables false
set_option linter.unusedSimpArgs false
theorem ld_rec (a : Addr) : loadVar 64 a = aggLd 64 a := rfl
theorem st_rec (a : Addr) (v : Value) : storeVar 64 a v = aggSt 64 a v := rfl
theorem bld_rec (p : Array (Nat × Value)) : Instr.build 64 p = aggBuild 64 p := rfl
theorem ldr_rec (b o : Nat) (w : World) : (aggLd 64 ⟨b, o, none⟩).run Try.prog w = match row? w b o 19 with | some cs => .ok (.agg cs.toArray) w | none => aggLdSlow 64 b o w :=
  ld_run Try.underlying64 rfl (by kernel_rfl) b o w
theorem str_rec (b : Nat) (cs : Array Value) (w : World) : (aggSt 64 ⟨b, 0, none⟩ (.agg cs)).run Try.prog w = match free? w b 0 19 && fok cs 19 with | true => .ok () (aggW w b cs.toList) | false => aggStSlow 64 b 0 (.agg cs) w :=
  st_run (by kernel_rfl) b cs w
/-- A record with its slice's value. -/
def RcU (w : World) (b o : Nat) (r : RC) (u : Value) : Prop := adOk r.g ∧ b < w.heap.size ∧ row? w b o 19 = some (rcC r u) ∧ Ads w u r.src
theorem RcAt.u {w : World} {b o : Nat} {r : RC} (h : RcAt w b o r) : ∃ u, RcU w b o r u := by
  obtain ⟨h1, h2, u, h3, h4⟩ := h
  exact ⟨u, h1, h2, h3, h4⟩
theorem RcU.at {w : World} {b o : Nat} {r : RC} {u : Value} (h : RcU w b o r u) : RcAt w b o r := ⟨h.1, h.2.1, u, h.2.2.1, h.2.2.2⟩
theorem RcU.below {w w' : World} {b o : Nat} {r : RC} {u : Value} (h : RcU w b o r u) (hb : Below w.heap.size w w') : RcU w' b o r u := by
  obtain ⟨h1, h2, h3, h4⟩ := h
  exact ⟨h1, Nat.lt_of_lt_of_le h2 hb.size, row?_below h3 h2 hb, h4.below hb⟩
/-- What is read of a record. -/
def RcC (w : World) (b o : Nat) (r : RC) (u : Value) : Prop := w.cell? ⟨b, o, none⟩ = some (.int .i64 r.kind) ∧ row? w b (o + 1) 17 = some (adC r.g) ∧ w.cell? ⟨b, o + 18, none⟩ = some u
theorem RcU.cells {w : World} {b o : Nat} {r : RC} {u : Value} (h : RcU w b o r u) : RcC w b o r u := by
  obtain ⟨h1, h2, h3, h4⟩ := h
  obtain ⟨h5, h6⟩ := rangeAt_of_row? h3
  have hl := adC_length h1
  refine ⟨h5 0 _ rfl, ?_, ?_⟩
  · have hr : w.rangeAt b (o + 1) (adC r.g) := fun j v hv => by
      have hj := (List.getElem?_eq_some_iff.1 hv).1
      have := h5 (1 + j) v (by
        unfold rcC
        rw [Nat.add_comm 1 j, List.getElem?_cons_succ, List.getElem?_append_left hj]
        exact hv)
      rw [← Nat.add_assoc] at this
      exact this
    have := row?_of hr
    rw [hl] at this
    exact this
  · exact h5 18 u (by
      unfold rcC
      rw [show (18 : Nat) = 17 + 1 from rfl, List.getElem?_cons_succ, List.getElem?_append_right (by omega), hl]
      rfl)
theorem Ads.one {w : World} {v : Value} {l : List AD} (h : Ads w v l) : v.oneCell' = true := by
  obtain ⟨p, cap, h1, _⟩ := h; rw [h1]; rfl
theorem rcC_one {r : RC} {u : Value} (hu : u.oneCell' = true) : ∀ v ∈ rcC r u, v.oneCell' = true := by
  intro v hv
  unfold rcC at hv
  simp only [List.mem_cons, List.mem_append, List.not_mem_nil, or_false] at hv
  rcases hv with rfl | hv | rfl
  · rfl
  · exact addrC_one _ _ v hv
  · exact hu
theorem fok_rec {r : RC} {u : Value} (h : adOk r.g) (hu : u.oneCell' = true) : fok (rcC r u).toArray 19 = true := by
  have h1 : (rcC r u).toArray.all (·.oneCell') = true := all_oneCell_toArray (rcC_one hu)
  simp only [fok, h1, Bool.and_true]
  simp [rcC_length h]
/-- A record boxed. -/
theorem RcU.boxed {w : World} {r : RC} {u : Value} {cs : Array Value} (ho : adOk r.g) (ha : Ads w u r.src) (hc : 19 = cs.size) : RcU (aggW (w.alloc (.cells cs 64)) w.heap.size (rcC r u)) w.heap.size 0 r u ∧ Below w.heap.size w (aggW (w.alloc (.cells cs 64)) w.heap.size (rcC r u)) := by
  have hf := free_made w cs 64 19 (by omega)
  have hb : Below w.heap.size w (aggW (w.alloc (.cells cs 64)) w.heap.size (rcC r u)) := aggW_below ((Below.refl _ _).alloc (Nat.le_refl _) _) (Nat.le_refl _) _
  have hob := ObjAt.made w cs 64
  have h2 := aggW_obj (L := cs.toList) (cs := rcC r u) (by simpa using hob) (by rw [rcC_length ho]; simp; omega) (rcC_one ha.one)
  exact ⟨⟨ho, h2.lt, aggW_row hf (rcC_length ho u), ha.below hb⟩, hb⟩
/-- Records that are good, one by one. -/
theorem rcs_take_succ {l : List RC} {k : Nat} (h : k < l.length) (f : RC → Bool) : (l.take (k + 1)).all f = ((l.take k).all f && f l[k]) := by
  rw [List.take_succ_eq_append_getElem h, List.all_append]; simp
theorem sizeR_succ {l : List RC} {k : Nat} (h : k < l.length) : sizeR (l.take (k + 1)) = sizeR (l.take k) + 8 + 4 * l[k].src.length := by
  unfold sizeR
  rw [List.take_succ_eq_append_getElem h, List.map_append, List.sum_append]
  simp; omega
theorem srcs8_len {l : List AD} (h : srcs8 l = true) : l.length < 65 := by
  unfold srcs8 at h
  rw [Bool.and_eq_true, decide_eq_true_eq] at h
  exact h.2
theorem sizeR_le {l : List RC} (h : l.all recOk = true) : sizeR l ≤ 8 + 264 * l.length := by
  induction l with
  | nil => simp [sizeR]
  | cons r q ih =>
    rw [List.all_cons, Bool.and_eq_true] at h
    have h1 := ih h.2
    have h2 := h.1
    unfold recOk at h2
    rw [Bool.and_eq_true] at h2
    have h3 := srcs8_len h2.2
    unfold sizeR at h1 ⊢
    simp at h1 ⊢
    omega
attribute [local go_sem ↓] ld_addr st_addr bld_addr ld_rec st_rec
attribute [local go_sem] ldr_addr str_addr ldr_rec str_rec


end Go.Proofs.Ytchbkamjmkfikaa

/-
  The document's own Good of layer 8, of any talk of at most 1000 records.
-/
namespace Go.Proofs.Ytchbkamjmkfikaa
open Go.RowKit
end Go.Proofs.Ytchbkamjmkfikaa

