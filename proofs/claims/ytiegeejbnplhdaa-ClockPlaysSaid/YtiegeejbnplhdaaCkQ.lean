/-
  The clock's Next.
-/
import Derived.Test.YtiegeejbnplhdaaCkP
namespace Go.Proofs.Ytiegeejbnplhdaa
open Go.RowKit
set_option linter.unusedVariables false
set_option linter.unusedSimpArgs false

/-- The order of keys is that of entries. -/
theorem cfE_lt {l : List EN} (h : CkOk l) {x y : EN} (hx : x ∈ l) (hy : y ∈ l) : decide (cfE l x.1 y.1 < 0) = ltE x y := by
  have h1 : tOf l x.1 = x.2 := tOf_mem h (k := x.1) (t := x.2) hx
  have h2 : tOf l y.1 = y.2 := tOf_mem h (k := y.1) (t := y.2) hy
  unfold cfE
  rw [h1, h2]
  unfold orI cmpI cmpK ltE
  by_cases a : x.2 < y.2
  · simp [a]
  · by_cases b : y.2 < x.2
    · have c : ¬ x.2 = y.2 := by omega
      simp [a, b, c]
    · have c : x.2 = y.2 := by omega
      simp only [a, b, c, if_false, if_true, decide_false, Bool.false_or, decide_true, Bool.true_and]
      cases d : ltK x.1 y.1 with
      | true => simp
      | false => cases e : ltK y.1 x.1 <;> simp
/-- The first key, its deadline, and whether there is one. -/
def firstE (l : List EN) : List UInt8 × Int × Bool := match l with | [] => ([], 0, false) | x :: _ => (x.1, x.2, true)
/-- What has been found so far. -/
def Best (done : List EN) (k : List UInt8) (f : Bool) : Prop := (done = [] ∧ k = [] ∧ f = false) ∨ (f = true ∧ ∃ x ∈ done, k = x.1 ∧ ∀ y ∈ done, y = x ∨ ltE x y = true)
theorem Best.end {l done : List EN} (h : CkOk l) (hp : done.Perm l) {k : List UInt8} {f : Bool} (hb : Best done k f) : (k, tOf l k, f) = firstE l := by
  rcases hb with ⟨rfl, rfl, rfl⟩ | ⟨rfl, x, hx, rfl, hm⟩
  · have : l = [] := List.eq_nil_of_length_eq_zero (by simpa using hp.length_eq.symm)
    subst this
    rfl
  · cases l with
    | nil => simp at hp; subst hp; cases hx
    | cons a r =>
      have ha : a ∈ done := hp.mem_iff.2 (by simp)
      have hx2 : x ∈ a :: r := hp.mem_iff.1 hx
      have e : a = x := by
        rcases hm a ha with e | e
        · exact e
        · rcases List.mem_cons.1 hx2 with e2 | e2
          · exact e2.symm
          · have := (List.pairwise_cons.1 h.s).1 x e2
            rw [ltE_ord.anti this] at e; cases e
      subst e
      rw [tOf_mem h (k := a.1) (t := a.2) (by simp)]
      rfl
theorem Best.step {l done : List EN} (h : CkOk l) {k : List UInt8} {f : Bool} (hb : Best done k f) {z : EN} (hz : z ∈ l) (hd : ∀ x ∈ done, x ∈ l) :
    Best (done ++ [z]) (if f = true ∧ ¬ cfE l z.1 k < 0 then k else z.1) true := by
  rcases hb with ⟨rfl, rfl, rfl⟩ | ⟨rfl, x, hx, rfl, hm⟩
  · exact .inr ⟨rfl, z, by simp, by simp, fun y hy => by simp at hy; exact .inl hy⟩
  · have h1 := cfE_lt h hz (hd x hx)
    refine .inr ⟨rfl, ?_⟩
    by_cases hc : cfE l z.1 x.1 < 0
    · rw [decide_eq_true hc] at h1
      rw [if_neg (fun e => e.2 hc)]
      refine ⟨z, by simp, rfl, fun y hy => ?_⟩
      rcases List.mem_append.1 hy with hy | hy
      · rcases hm y hy with rfl | e
        · exact .inr h1.symm
        · exact .inr (ltE_ord.trans _ _ _ h1.symm e)
      · exact .inl (by simpa using hy)
    · rw [decide_eq_false hc] at h1
      rw [if_pos ⟨rfl, hc⟩]
      refine ⟨x, by simp [hx], rfl, fun y hy => ?_⟩
      rcases List.mem_append.1 hy with hy | hy
      · exact hm y hy
      · have e : y = z := by simpa using hy
        subst e
        by_cases e2 : y = x
        · exact .inl e2
        · rcases ltE_ord.tot x y rfl rfl (Ne.symm e2) with e3 | e3
          · exact .inr e3
          · rw [← h1] at e3; cases e3
theorem RgM.sub {w : World} {m : Value} {r : Nat} {l d : List EN} (h : RgM w m r l d) : ∀ x ∈ d, x ∈ l := by
  rcases h with ⟨_, h2, h3, _⟩ | ⟨b, D, left, cnt, h1, h2, h3, h4, h5⟩
  · subst h3; intro x hx; cases hx
  · exact fun x hx => ((h5 x).1 hx).1
set_option maxRecDepth 100000 in
theorem next_any (p : Value) (l : List EN) (w : World) (h : ClkV w p l) (hok : EnOk l) :
    Calls Try.prog 22 #[p] w fun x w' => x = .returned (.tuple #[.string (Str (firstE l).1), .int .i64 (firstE l).2.1, .bool (firstE l).2.2]) ∧ Below w.heap.size w w' := by
  have HA := Lib.hid (all_any p l w h)
  have HT := Lib.hid (fun k W h hk => ckat_any p l k W h hok.ck hk)
  have HV := Lib.hid h
  have HO := Lib.hid hok
  have HP : Hid (∀ z, z ∈ l → ∃ b bm, p = .pointer (some ⟨b, 0, none⟩) ∧ ObjAt w b #[.map (some bm)] 51) := Lib.hid fun z hz => by
    rcases h with ⟨_, rfl⟩ | ⟨b, m, rfl, ho, ⟨_, rfl⟩ | ⟨bm, rfl, _⟩⟩
    · cases hz
    · cases hz
    · exact ⟨b, bm, rfl, ho⟩
  clear h hok
  go_enter Try.func22, Try.ntmps22
  go_wp2_with (first
    | (go_at_call 26; refine HA.out.mono ?_; rintro x w1 ⟨⟨m, rfl, hM, hB⟩, rfl⟩; have HM := Lib.hid hM; have HMB := Lib.hid hB; clear hM hB)
    | (at_range; refine wpList_rangeM rfl _ rfl m l rfl HM.out ?_; intro w1 h1 h2; have H1 := Lib.hid h1; have HB1 := Lib.hid ((Below.refl w.heap.size w).grown h2 (Nat.le_refl _) (fun k e => by cases e)); clear h1 h2))
  go_frame
  generalize hr : w.heap.size = r at *
  have HR := Lib.hid hr
  clear hr
  go_loopw [5, 6] (fun u f wr => ∃ (done : List EN) (k : List UInt8) (g : Bool), u = .string (Str k) ∧ f = .bool g ∧ Hid (RgM wr m r l done) ∧ Hid (Best done k g) ∧ Hid (k.length ≤ maxLen) ∧ Hid (Below r w wr)) (fun _ _ wr => leftM wr m r)
  case atStart => exact ⟨[], [], false, rfl, rfl, H1, Lib.hid (.inl ⟨rfl, rfl, rfl⟩), Lib.hid (Nat.zero_le _), HB1⟩
  case round =>
    clear H1 HB1
    obtain ⟨done, k, g, rfl, rfl, HG, HBest, HKL, HB⟩ := hrel
    go_wp2_with (at_next; refine wpList_nextM rfl _ rfl m r l done rfl HG.out HO.out.ck ?_ ?_)
    · intro hp
      have HP1 := Lib.hid (Best.end HO.out.ck hp HBest.out)
      have HV1 := Lib.hid (HV.out.below (w' := wr) (by rw [HR.out]; exact HB.out))
      clear hp
      go_wp2_with (go_at_call 21; refine (HT.out k wr HV1.out HKL.out).mono ?_; rintro x w1 ⟨rfl, rfl⟩)
      refine bodyPost_ret (results_tmp3 rfl _ _ _) rfl ?_
      rw [HR.out, ← HP1.out]
      exact ⟨rfl, HB.out⟩
    · intro k2 t w2 hm hn hk hG2 hlt hg hen
      have HS := Lib.hid (HBest.out.step HO.out.ck hm HG.out.sub)
      have HG2 := Lib.hid hG2
      have HL := Lib.hid hlt
      have HK2 := Lib.hid hk
      have HB2 := Lib.hid (HB.out.grown hg (by rw [← HR.out]; exact HB.out.size) (fun k e => by cases e; exact Nat.le_refl _))
      obtain ⟨b, bm, hp, ho⟩ := HP.out _ hm
      subst hp
      have ho2 := ho.below HB2.out (by rw [← HR.out]; exact ho.lt)
      have hm2 : ∃ bm', m = .map (some bm') ∧ OwnM w2 bm' l := by
        rcases hG2.clk with ⟨_, e⟩ | h
        · rw [e] at hm; cases hm
        · exact h
      obtain ⟨bm', rfl, hM2⟩ := hm2
      have HORD : Hid (Calls Try.prog 29 #[.pointer (some ⟨b, 0, none⟩), .string (Str k2), .string (Str k)] w2 fun x w' => x = .returned (.int .i64 (cfE l k2 k)) ∧ ∃ q os, w' = Sort.grow (w2.drewN q) os) := by
        have e : bm = bm' := by
          rcases HMB.out bm' rfl with e | ⟨b3, T, e, ho3⟩
          · cases e
            obtain ⟨es, c, h4⟩ := hM2.isMap
            have h5 : w2.heap[b]? = some (.cells #[.map (some bm)] 51 (0, 0)) := ho2
            rw [h5] at h4; cases h4
          · cases e
            exact obj_map ho ho3
        subst e
        exact Lib.hid (order_any b bm l k2 k w2 ho2 hM2 HO.out.ck hk HKL.out)
      clear hm hn hk hG2 hlt hg ho ho2 hM2
      cases g with
      | false =>
        go_wp2
        go_roundw
        case rel => exact ⟨done ++ [(k2, t)], k2, true, rfl, rfl, HG2, Lib.hid (by have := HS.out; simpa using this), HK2, HB2⟩
        case measure => exact HL.out
      | true =>
        have HX : Hid (∀ w3, (∃ q os, w3 = Sort.grow (w2.drewN q) os) → RgM w3 (.map (some bm')) r l (done ++ [(k2, t)]) ∧ leftM w3 (.map (some bm')) r < leftM wr (.map (some bm')) r ∧ Below r w w3) := Lib.hid fun w3 h3 => by
          obtain ⟨q, os, rfl⟩ := h3
          have hb3 : Below w2.heap.size w2 (Sort.grow (w2.drewN q) os) := ⟨rfl, rfl, rfl, by simp, fun k hk => Sort.heap_grow_old _ _ (by simpa using hk)⟩
          refine ⟨HG2.out.kept (grownBelow hb3) (fun k e => by cases e), ?_, HB2.out.trans (hb3.mono (by rw [← HR.out]; exact HB2.out.size))⟩
          rw [leftM_kept HG2.out (grownBelow hb3) (fun k e => by cases e)]
          exact HL.out
        generalize hcf : cfE l k2 k = c at *
        have HC := Lib.hid hcf
        clear hcf
        by_cases hc : c < 0
        · have hd : decide (c < 0) = true := decide_eq_true hc
          have HS2 : Hid (Best (done ++ [(k2, t)]) k2 true) := Lib.hid (by have := HS.out; rwa [if_neg (fun e => e.2 (by first | exact hc | (rw [HC.out]; exact hc)))] at this)
          go_wp2_with (go_at_call 29; refine HORD.out.mono ?_; rintro x w3 ⟨rfl, h3⟩; have H3 := Lib.hid (HX.out w3 h3); clear h3)
          go_roundw
          case rel => exact ⟨done ++ [(k2, t)], k2, true, rfl, rfl, Lib.hid H3.out.1, HS2, HK2, Lib.hid H3.out.2.2⟩
          case measure => exact H3.out.2.1
        · have hd : decide (c < 0) = false := decide_eq_false hc
          have HS2 : Hid (Best (done ++ [(k2, t)]) k true) := Lib.hid (by have := HS.out; rwa [if_pos ⟨rfl, (by first | exact hc | (rw [HC.out]; exact hc))⟩] at this)
          go_wp2_with (go_at_call 29; refine HORD.out.mono ?_; rintro x w3 ⟨rfl, h3⟩; have H3 := Lib.hid (HX.out w3 h3); clear h3)
          go_roundw
          case rel => exact ⟨done ++ [(k2, t)], k, true, rfl, rfl, Lib.hid H3.out.1, HS2, HKL, Lib.hid H3.out.2.2⟩
          case measure => exact H3.out.2.1
end Go.Proofs.Ytiegeejbnplhdaa
