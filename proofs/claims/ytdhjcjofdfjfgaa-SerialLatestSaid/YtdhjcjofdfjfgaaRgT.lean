/-
  The walk of SerialLatest.
-/
import Derived.Test.YtdhjcjofdfjfgaaRgW
import Derived.Test.YtdhjcjofdfjfgaaCkB
import Derived.Maps.AppendAt
namespace Go.Proofs.Ytdhjcjofdfjfgaa
open Go.RowKit
set_option linter.unusedVariables false
set_option linter.unusedSimpArgs false

theorem nums_of {k : IntKind} {w : World} {v : Value} {l : List Int} (h : sliceS 1 (intS k) w [v] l) : ∃ q cap, v = .slice q l.length cap ∧ l.length ≤ cap ∧ cap ≤ maxLen ∧
    ∀ i (hi : i < l.length), ∃ b o, q = some ⟨b, o, none⟩ ∧ b < w.heap.size ∧ w.cell? ⟨b, o + i, none⟩ = some (.int k l[i]) ∧ (Lit.int k l[i]).wf = true := by
  rcases h with ⟨e, rfl⟩ | ⟨a, cap, e, h1, h2, h3, h4⟩
  · simp only [List.cons.injEq, and_true] at e
    exact ⟨none, 0, e, Nat.le_refl _, by unfold maxLen; omega, fun i hi => absurd hi (by simp)⟩
  · simp only [List.cons.injEq, and_true] at e
    refine ⟨some a, cap, e, h1, h2, fun i hi => ?_⟩
    obtain ⟨s1, s2⟩ := h3 (fun e => by subst e; simp at hi)
    obtain ⟨c, hc, hcell, e1, wf⟩ := h4 i l[i] (List.getElem?_eq_getElem hi)
    obtain ⟨ab, ao, asp⟩ := a
    simp only at s1 s2 hcell
    subst s1
    subst e1
    have := hcell 0 (by simp)
    exact ⟨ab, ao, rfl, s2, by simpa using this, wf⟩
theorem info_u32 : (Try.prog.info? 22).map (fun i => (i.zero, i.size, i.bytes)) = some (some (.int .u32 0), 1, 4) := by kernel_rfl
theorem wpList_appU {w : World} {ops : Array Oper} {rest : List Oper} {o : Oper} {a : Act} {Q : Exit → Act → World → Prop} (hgd : o.guard = none) (s x : Operand) (ho : o.op = .call { callee := .builtin .append, args := #[s, x], argTypes := #[30, 30] })
    (base : Nat) (v : Value) (ys : List Int) (c : Int) (m : Nat) (hs : a.eval s = v) (hown : OwnV KU 22 w base v ys) (hx : a.eval x = .slice (some ⟨m, 0, none⟩) 1 1) (hm : ObjAt w m #[.int .u32 c] 22) (hn : ys.length ≤ 1000000000) (hbase : base ≤ w.heap.size)
    (h : ∀ v' w', OwnV KU 22 w' base v' (ys ++ [c]) → w.grownBy w' v.ownBlock → (v'.ownBlock = v.ownBlock ∨ v'.ownBlock = some w.heap.size) → wpList Try.prog ops Q rest (a.put o.dst v') w') : wpList Try.prog ops Q (o :: rest) a w := by
  obtain ⟨i0, hi0, hz0, hz1, hz2⟩ := info_partsV info_u32
  refine wpList_append_own_at w hgd s x 30 ho base 22 i0 (.int .u32 0) 1 4 Try.underlying30 hi0 hz0 hz1 hz2 rfl (by omega) v ys.length (KU.Cs ys) hs hown ⟨m, 0, none⟩ 1 1 [.int .u32 c] hx rfl ?_ (by simp [Value.oneCell']) (by unfold maxLen; omega) (by omega) hbase ?_
  · intro j u hj
    rw [add_litV, hm.cell, List.getElem?_toArray, Nat.zero_add]
    exact hj
  · intro v' w' h1 h2 _ h4
    refine h v' w' ?_ h2 h4
    unfold OwnV
    rw [List.length_append, KU.Cs_append]
    exact h1
theorem OwnV.kept {w w' : World} {base : Nat} {v : Value} {l : List Int} {row : Option Nat} (h : OwnV KU 22 w base v l) (hg : w.grownBy w' row) (hne : v.ownBlock ≠ row) : OwnV KU 22 w' base v l := by
  obtain ⟨h1, h2 | ⟨g, cap, cur, rfl, e2, e3, e4⟩⟩ := h
  · exact ⟨h1, .inl h2⟩
  · exact ⟨h1, .inr ⟨g, cap, cur, rfl, e2, (hg.block g (Array.getElem?_eq_some_iff.1 e3).1 hne).trans e3, e4⟩⟩
theorem own_apart {w : World} {base : Nat} {v v' u : Value} {l : List Int} (h : u.ownBlock ≠ v.ownBlock) (ho : OwnV KU 22 w base u l) (hat : v'.ownBlock = v.ownBlock ∨ v'.ownBlock = some w.heap.size) : u.ownBlock ≠ v'.ownBlock := by
  rcases hat with e | e
  · rw [e]; exact h
  · intro e2
    rw [e] at e2
    have := (ho.ge _ e2).2
    omega
/-- Behind an append: the other list is as it was, and lies apart. -/
theorem app_other {w wr w3 : World} {B : Nat} {u v' x : Value} {L M : List Int} {ob : Obj} (HO : OwnV KU 22 wr B u L) (HX : OwnV KU 22 wr B x M) (hne : x.ownBlock ≠ u.ownBlock) (HB : Below B w wr) (hs : B ≤ wr.heap.size)
    (hg : (wr.alloc ob).grownBy w3 u.ownBlock) (hat : v'.ownBlock = u.ownBlock ∨ v'.ownBlock = some (wr.alloc ob).heap.size) : OwnV KU 22 w3 B x M ∧ x.ownBlock ≠ v'.ownBlock ∧ Below B w w3 := by
  have h1 : OwnV KU 22 (wr.alloc ob) B x M := OwnV.below HX (bbV wr ob)
  exact ⟨OwnV.kept h1 hg hne, own_apart hne h1 hat, Below.grown (HB.alloc hs ob) hg (by rw [World.size_alloc]; omega) (fun j e => (HO.ge j e).1)⟩
def laI : List Int → Int
  | [] => 0
  | a :: r => lateI a r
set_option maxRecDepth 100000 in
set_option maxHeartbeats 2000000 in
theorem slatest_w (HLA : ∀ W v l, Vec KU W v l → U32s l → Calls Try.prog 15 #[v] W fun x w' => x = .returned (.tuple #[.int .u32 (laI l), .bool (decide (0 < l.length))]) ∧ W = w')
    (v0 : Value) (l : List Int) (a : Int) (v2 : Value) (near : List Int) (w : World) (hv0 : sliceS 1 (intS .u32) w [v0] l) (ha : (Lit.int .u32 a).wf = true) (hv2 : sliceS 1 (intS .u16) w [v2] near) :
    Calls Try.prog 6 #[v0, .int .u32 a, v2] w fun x w' => x = .returned (.bool true) ∧ Below w.heap.size w w' := by
  obtain ⟨q, cap, rfl, hc1, hc2, hq⟩ := nums_of hv0
  obtain ⟨q2, cap2, rfl, hd1, hd2, hq2⟩ := nums_of hv2
  obtain ⟨a0, a1⟩ := bounds_n32 ha
  obtain ⟨n, hn⟩ : ∃ n, n = l.length := ⟨_, rfl⟩
  obtain ⟨n2, hn2⟩ : ∃ n, n = near.length := ⟨_, rfl⟩
  have hmx : n ≤ maxLen := by omega
  have hmx2 : n2 ≤ maxLen := by omega
  unfold maxLen at hmx hmx2
  rw [← hn, ← hn2]
  have HQ := Lib.hid hq
  have HQ2 := Lib.hid hq2
  have HN := Lib.hid hn
  have HN2 := Lib.hid hn2
  have HLA' := Lib.hid HLA
  have HRL := Lib.hid (fun v a r W h hu => latest13_any v a r W h hu)
  have HRA := Lib.hid (fun k h W => add13_any a k a0 a1 (And.left h) (And.right h) W)
  have HLI := Lib.hid (fun W => lives13_any W)
  obtain ⟨B, HBE⟩ : ∃ B, Hid (w.heap.size = B) := ⟨_, Lib.hid rfl⟩
  rw [HBE.out]
  have HBR : Hid (Below B w w) := Lib.hid (Below.refl _ _)
  clear hq hq2 hn hn2 hc1 hc2 hd1 hd2 hv0 hv2 ha HLA
  go_enter Try.func6, Try.ntmps6
  go_wp2_with fail
  generalize HX0 : (Value.slice (some ⟨w.heap.size + 1, 0, none⟩) 0 0) = X0
  have HOX : Hid (OwnV KU 22 ((w.alloc (.cells #[] 22)).alloc (.cells #[] 22)) B X0 []) := Lib.hid (by
    rw [← HX0]
    have h := World.ownsRow_lit (w.alloc (.cells #[] 22)) #[] 0 (e := 22) (size := 1) (Nat.le_refl _) (by unfold maxLen; omega) (by simp)
    rw [World.size_alloc] at h
    exact OwnV.mono h (by rw [← HBE.out]; omega))
  have HOO : Hid (OwnV KU 22 ((w.alloc (.cells #[] 22)).alloc (.cells #[] 22)) B (.slice (some ⟨w.heap.size, 0, none⟩) 0 0) []) := Lib.hid (by
    rw [← HBE.out]
    exact OwnV.below (World.ownsRow_lit w #[] 0 (Nat.le_refl _) (by unfold maxLen; omega) (by simp)) (bbV _ _))
  have HNE : Hid (X0.ownBlock ≠ (Value.slice (some ⟨w.heap.size, 0, none⟩) 0 0).ownBlock) := Lib.hid (by
    rw [← HX0]; simp [Value.ownBlock])
  clear HX0
  go_loopw [7, 10] (fun u i wr => ∃ (k : Nat) (L : List Int), k ≤ n ∧ k ≤ 10 ∧ i = .int .i64 k ∧ Hid (OwnV KU 22 wr B u L) ∧ Hid (OwnV KU 22 wr B X0 []) ∧ Hid (X0.ownBlock ≠ u.ownBlock) ∧ Hid (L.length ≤ k) ∧ Hid (U32s L) ∧ Hid (Below B w wr)) (fun _ i _ => n - (intOf i).toNat)
  case atStart => exact ⟨0, [], by omega, by omega, rfl, HOO, HOX, HNE, Lib.hid (Nat.le_refl _), Lib.hid (fun x hx => absurd hx (by simp)), Lib.hid ((HBR.out.alloc (by rw [HBE.out]; exact Nat.le_refl _) _).alloc (by rw [World.size_alloc, HBE.out]; omega) _)⟩
  case round =>
    clear HOO HOX HNE
    obtain ⟨k, L, hk, hk10, rfl, HO, HX, HNE, HLL, HUL, HB⟩ := hrel
    by_cases hlt : k < n ∧ k < 10
    · obtain ⟨hlt1, hlt2⟩ := hlt
      have hb1 : (k : Int) < (n : Int) := by omega
      have hb2 : (k : Int) < 10 := by omega
      have hw1 : IntKind.i64.wrap ((k : Int) + 1) = (k : Int) + 1 := by simp only [IntKind.wrap_i64]; omega
      obtain ⟨b, o, rfl, hbl, hcell, hwf⟩ := HQ.out k (by rw [← HN.out]; exact hlt1)
      rw [HBE.out] at hbl
      have r1 := (HB.out.cell (p := ⟨b, o + k, none⟩) hbl).trans hcell
      have HU2 := Lib.hid (show U32s (L ++ [l[k]'(by rw [← HN.out]; exact hlt1)]) from fun x hx => by
        rcases List.mem_append.1 hx with h | h
        · exact HUL.out x h
        · rw [List.mem_singleton.1 h]; exact bounds_n32 hwf)
      generalize l[k]'(by rw [← HN.out]; exact hlt1) = c at *
      clear hcell hwf hbl
      have HSZ : Hid (B ≤ wr.heap.size) := Lib.hid (by rw [← HBE.out]; have := HB.out.size; omega)
      go_wp2_with (at_builtin; refine wpList_appU rfl _ _ rfl B _ L c _ rfl (OwnV.below HO.out (bbV _ _)) rfl (ObjAt.made _ _ _) (by have := HLL.out; omega) (by have := HSZ.out; rw [World.size_alloc]; omega) ?_; intro v' w3 hown' hgrow hat; have HO3 := Lib.hid hown'; have hh := app_other HO.out HX.out HNE.out HB.out HSZ.out hgrow hat; have HX3 := Lib.hid hh.1; have HNE3 := Lib.hid hh.2.1; have H3 := Lib.hid hh.2.2; clear hh hown' hgrow hat)
      go_roundw
      case rel => exact ⟨k + 1, _, by omega, by omega, by go_num, HO3, HX3, HNE3, Lib.hid (by have := HLL.out; simp; omega), HU2, H3⟩
      case measure => simp [intOf]; omega
    · have hstop : (¬ (k : Int) < (n : Int)) ∨ ((k : Int) < (n : Int) ∧ ¬ (k : Int) < 10) := by
        by_cases h : k < n
        · right; exact ⟨by omega, by omega⟩
        · left; omega
      have HOX2 : Hid (OwnV KU 22 wr B X0 (List.map (addI a) [])) := HX
      have HNE2 : Hid (u7.ownBlock ≠ X0.ownBlock) := Lib.hid (fun e => HNE.out e.symm)
      clear hlt HX HNE
      rcases hstop with hs | ⟨hs, hs2⟩ <;>
      (go_wp2_with fail
       go_loopw [8, 9, 11] (fun x m i wr2 => ∃ (k2 : Nat) (M : List Int) (mx : Int), k2 ≤ n2 ∧ k2 ≤ 10 ∧ i = .int .i64 k2 ∧ m = .int .i64 mx ∧ Hid (OwnV KU 22 wr2 B x (M.map (addI a))) ∧ Hid (OwnV KU 22 wr2 B u7 L) ∧ Hid (u7.ownBlock ≠ x.ownBlock) ∧ Hid (M.length ≤ k2) ∧ Hid (∀ y ∈ M, 0 ≤ y ∧ y < 65536) ∧ Hid (mx = M.foldl max 0) ∧ Hid (0 ≤ mx ∧ mx < 65536) ∧ Hid (Below B w wr2)) (fun _ _ i _ => n2 - (intOf i).toNat)
       case atStart => exact ⟨0, [], 0, by omega, by omega, rfl, rfl, HOX2, HO, HNE2, Lib.hid (Nat.le_refl _), Lib.hid (fun x hx => absurd hx (by simp)), Lib.hid rfl, Lib.hid (by omega), HB⟩
       case round =>
         clear HO HOX2 HNE2 HB hs
         obtain ⟨k2, M, mx, hk2, hk210, rfl, rfl, HO2, HO, HNE, HLM, HUM, HMX, HMB0, HB2⟩ := hrel
         have HMB : Hid (-9223372036854775808 ≤ mx ∧ mx ≤ 9223372036854775807) := Lib.hid (by have := HMB0.out; omega)
         by_cases hlt : k2 < n2 ∧ k2 < 10
         · obtain ⟨hlt1, hlt2⟩ := hlt
           have hb1 : (k2 : Int) < (n2 : Int) := by omega
           have hb2 : (k2 : Int) < 10 := by omega
           have hw1 : IntKind.i64.wrap ((k2 : Int) + 1) = (k2 : Int) + 1 := by simp only [IntKind.wrap_i64]; omega
           obtain ⟨b, o, rfl, hbl, hcell, hwf⟩ := HQ2.out k2 (by rw [← HN2.out]; exact hlt1)
           rw [HBE.out] at hbl
           have r1 := (HB2.out.cell (p := ⟨b, o + k2, none⟩) hbl).trans hcell
           obtain ⟨c0, c1⟩ := bounds_n16 hwf
           have hmap : M.map (addI a) ++ [addI a (near[k2]'(by rw [← HN2.out]; exact hlt1))] = (M ++ [near[k2]'(by rw [← HN2.out]; exact hlt1)]).map (addI a) := by simp
           have HMAP := Lib.hid hmap
           have HBL := Lib.hid hbl
           have HCELL : Hid (∀ W, Below B w W → W.cell? ⟨b, o + k2, none⟩ = some (.int .u16 (near[k2]'(by rw [← HN2.out]; exact hlt1)))) := Lib.hid fun W h => (h.cell (p := ⟨b, o + k2, none⟩) hbl).trans hcell
           generalize near[k2]'(by rw [← HN2.out]; exact hlt1) = c at *
           have HU2 := Lib.hid (show ∀ y ∈ M ++ [c], 0 ≤ y ∧ y < 65536 from fun x hx => by
             rcases List.mem_append.1 hx with h | h
             · exact HUM.out x h
             · rw [List.mem_singleton.1 h]; exact ⟨c0, c1⟩)
           have hcw : IntKind.i64.wrap c = c := by simp only [IntKind.wrap_i64]; omega
           have HADD := Lib.hid (HRA.out c (by omega))
           obtain ⟨d, HDE⟩ : ∃ d, Hid (addI a c = d) := ⟨_, Lib.hid rfl⟩
           rw [HDE.out] at HADD HMAP
           clear hcell hwf hbl hmap
           have HSZ : Hid (B ≤ wr.heap.size) := Lib.hid (by rw [← HBE.out]; have := HB2.out.size; omega)
           have HLM2 : Hid ((M.map (addI a)).length ≤ 10) := Lib.hid (by have := HLM.out; rw [List.length_map]; omega)
           have hfold : (M ++ [c]).foldl max 0 = max mx c := by rw [List.foldl_append, ← HMX.out]; rfl
           have HFO := Lib.hid hfold
           clear hfold
           by_cases hcm : mx < c
           · have hcm2 : c > mx := hcm
             go_wp2_with (first
               | (go_at_call 11; (with_reducible refine (HADD.out _).mono ?_); rintro x w1 ⟨rfl, rfl⟩)
               | (at_builtin; refine wpList_appU rfl _ _ rfl B _ (M.map (addI a)) d _ rfl (OwnV.below HO2.out (bbV _ _)) rfl (ObjAt.made _ _ _) (by have := HLM2.out; omega) (by have := HSZ.out; rw [World.size_alloc]; omega) ?_; intro v' w3 hown' hgrow hat; rw [HMAP.out] at hown'; have HO3 := Lib.hid hown'; have hh := app_other HO2.out HO.out HNE.out HB2.out HSZ.out hgrow hat; have HX3 := Lib.hid hh.1; have HNE3 := Lib.hid hh.2.1; have H3 := Lib.hid hh.2.2; have r2 := HCELL.out _ hh.2.2; clear hh hown' hgrow hat))
             go_roundw
             case rel => exact ⟨k2 + 1, M ++ [c], c, by omega, by omega, by go_num, rfl, HO3, HX3, HNE3, Lib.hid (by have := HLM.out; simp; omega), HU2, Lib.hid (by rw [HFO.out]; omega), Lib.hid (by omega), H3⟩
             case measure => simp [intOf]; omega
           · have hcm2 : ¬ c > mx := hcm
             go_wp2_with (first
               | (go_at_call 11; (with_reducible refine (HADD.out _).mono ?_); rintro x w1 ⟨rfl, rfl⟩)
               | (at_builtin; refine wpList_appU rfl _ _ rfl B _ (M.map (addI a)) d _ rfl (OwnV.below HO2.out (bbV _ _)) rfl (ObjAt.made _ _ _) (by have := HLM2.out; omega) (by have := HSZ.out; rw [World.size_alloc]; omega) ?_; intro v' w3 hown' hgrow hat; rw [HMAP.out] at hown'; have HO3 := Lib.hid hown'; have hh := app_other HO2.out HO.out HNE.out HB2.out HSZ.out hgrow hat; have HX3 := Lib.hid hh.1; have HNE3 := Lib.hid hh.2.1; have H3 := Lib.hid hh.2.2; have r2 := HCELL.out _ hh.2.2; clear hh hown' hgrow hat))
             go_roundw
             case rel => exact ⟨k2 + 1, M ++ [c], mx, by omega, by omega, by go_num, rfl, HO3, HX3, HNE3, Lib.hid (by have := HLM.out; simp; omega), HU2, Lib.hid (by rw [HFO.out]; omega), HMB0, H3⟩
             case measure => simp [intOf]; omega
         · have hstop : (¬ (k2 : Int) < (n2 : Int)) ∨ ((k2 : Int) < (n2 : Int) ∧ ¬ (k2 : Int) < 10) := by
             by_cases h : k2 < n2
             · right; exact ⟨by omega, by omega⟩
             · left; omega
           clear hlt
           obtain ⟨p, pc, rfl, _, _, _⟩ := HO.out.vec.len
           obtain ⟨p2, pc2, rfl, _, _, _⟩ := HO2.out.vec.len
           clear HNE
           rcases hstop with hs | ⟨hs, hs2⟩ <;> rcases L with _ | ⟨c, r⟩ <;> rcases M with _ | ⟨y, m⟩
           · have hL1 : Hid (∀ W, Vec KU W (.slice p 0 pc) [] → Calls Try.prog 15 #[.slice p 0 pc] W fun x w' => x = .returned (.tuple #[.int .u32 0, .bool false]) ∧ W = w') := Lib.hid fun W h => HLA'.out W _ [] h (fun x hx => absurd hx (by simp))
             have hL2 : Hid (∀ W, Vec KU W (.slice p2 0 pc2) [] → Calls Try.prog 15 #[.slice p2 0 pc2] W fun x w' => x = .returned (.tuple #[.int .u32 0, .bool false]) ∧ W = w') := Lib.hid fun W h => HLA'.out W _ [] h (fun x hx => absurd hx (by simp))
             have hV2 : Hid (Vec KU wr (.slice p2 0 pc2) []) := Lib.hid HO2.out.vec
             have hV1 := Lib.hid HO.out.vec
             go_wp2_with (first
               | (go_at_call 15; (with_reducible refine (hL1.out _ hV1.out).mono ?_); rintro x w1 ⟨rfl, rfl⟩)
               | (go_at_call 15; (with_reducible refine (hL2.out _ hV2.out).mono ?_); rintro x w1 ⟨rfl, rfl⟩)
               | (go_at_call 12; (with_reducible refine (HLI.out _).mono ?_); rintro x w1 ⟨rfl, rfl⟩))
             go_ret
             exact ⟨rfl, HB2.out⟩
           · have hL1 : Hid (∀ W, Vec KU W (.slice p 0 pc) [] → Calls Try.prog 15 #[.slice p 0 pc] W fun x w' => x = .returned (.tuple #[.int .u32 0, .bool false]) ∧ W = w') := Lib.hid fun W h => HLA'.out W _ [] h (fun x hx => absurd hx (by simp))
             obtain ⟨ml, HML⟩ : ∃ nl : Nat, Hid ((List.map (addI a) (y :: m)).length = nl) := ⟨_, Lib.hid rfl⟩
             have hml : (0 : Int) < (ml : Int) := by have := HML.out; simp at this; omega
             rw [HML.out] at HO2 ⊢
             have hlat : laI (List.map (addI a) (y :: m)) = addI a mx := by
               have hy := HUM.out y List.mem_cons_self
               have h := lateI_near a m y (fun z hz => HUM.out z (List.mem_cons_of_mem _ hz)) hy.1 hy.2
               show lateI (addI a y) (List.map (addI a) m) = _
               rw [h, HMX.out, List.foldl_cons, show max 0 y = y by omega]
             have hL2 : Hid (∀ W, Vec KU W (.slice p2 ml pc2) (List.map (addI a) (y :: m)) → Calls Try.prog 15 #[.slice p2 ml pc2] W fun x w' => x = .returned (.tuple #[.int .u32 (addI a mx), .bool true]) ∧ W = w') := Lib.hid fun W h => by
               have := HLA'.out W _ _ h (fun x hx => by obtain ⟨z, _, rfl⟩ := List.mem_map.1 hx; exact ⟨addI_lo _ _, addI_hi _ _⟩)
               rw [hlat] at this
               rwa [decide_eq_true (by rw [List.length_map, List.length_cons]; omega)] at this
             have hV2 : Hid (Vec KU wr (.slice p2 ml pc2) (List.map (addI a) (y :: m))) := Lib.hid HO2.out.vec
             have hA2 := Lib.hid (HRA.out mx HMB.out)
             generalize addI a mx = mv at hL2 hA2
             have hV1 := Lib.hid HO.out.vec
             go_wp2_with (first
               | (go_at_call 15; (with_reducible refine (hL1.out _ hV1.out).mono ?_); rintro x w1 ⟨rfl, rfl⟩)
               | (go_at_call 15; (with_reducible refine (hL2.out _ hV2.out).mono ?_); rintro x w1 ⟨rfl, rfl⟩)
               | (go_at_call 11; (with_reducible refine (hA2.out _).mono ?_); rintro x w1 ⟨rfl, rfl⟩)
               | (go_at_call 12; (with_reducible refine (HLI.out _).mono ?_); rintro x w1 ⟨rfl, rfl⟩))
             go_ret
             exact ⟨rfl, HB2.out⟩
           · obtain ⟨nl, HNL⟩ : ∃ nl : Nat, Hid ((c :: r).length = nl) := ⟨_, Lib.hid rfl⟩
             have hnl : (0 : Int) < (nl : Int) := by have := HNL.out; simp at this; omega
             rw [HNL.out] at HO ⊢
             have hL1 : Hid (∀ W, Vec KU W (.slice p nl pc) (c :: r) → Calls Try.prog 15 #[.slice p nl pc] W fun x w' => x = .returned (.tuple #[.int .u32 (lateI c r), .bool true]) ∧ W = w') := Lib.hid fun W h => by
               have := HLA'.out W _ (c :: r) h HUL.out
               rwa [decide_eq_true (by simp)] at this
             have hR1 : Hid (∀ W, Vec KU W (.slice p nl pc) (c :: r) → Calls Try.prog 16 #[.slice p nl pc] W fun x w' => x = .returned (.int .u32 (lateI c r)) ∧ W = w') := Lib.hid fun W h => HRL.out _ c r W h HUL.out
             generalize lateI c r = nv at hL1 hR1
             have hL2 : Hid (∀ W, Vec KU W (.slice p2 0 pc2) [] → Calls Try.prog 15 #[.slice p2 0 pc2] W fun x w' => x = .returned (.tuple #[.int .u32 0, .bool false]) ∧ W = w') := Lib.hid fun W h => HLA'.out W _ [] h (fun x hx => absurd hx (by simp))
             have hV2 : Hid (Vec KU wr (.slice p2 0 pc2) []) := Lib.hid HO2.out.vec
             have hV1 := Lib.hid HO.out.vec
             go_wp2_with (first
               | (go_at_call 15; (with_reducible refine (hL1.out _ hV1.out).mono ?_); rintro x w1 ⟨rfl, rfl⟩)
               | (go_at_call 15; (with_reducible refine (hL2.out _ hV2.out).mono ?_); rintro x w1 ⟨rfl, rfl⟩)
               | (go_at_call 16; (with_reducible refine (hR1.out _ hV1.out).mono ?_); rintro x w1 ⟨rfl, rfl⟩)
               | (go_at_call 12; (with_reducible refine (HLI.out _).mono ?_); rintro x w1 ⟨rfl, rfl⟩))
             go_ret
             exact ⟨rfl, HB2.out⟩
           · obtain ⟨nl, HNL⟩ : ∃ nl : Nat, Hid ((c :: r).length = nl) := ⟨_, Lib.hid rfl⟩
             have hnl : (0 : Int) < (nl : Int) := by have := HNL.out; simp at this; omega
             rw [HNL.out] at HO ⊢
             have hL1 : Hid (∀ W, Vec KU W (.slice p nl pc) (c :: r) → Calls Try.prog 15 #[.slice p nl pc] W fun x w' => x = .returned (.tuple #[.int .u32 (lateI c r), .bool true]) ∧ W = w') := Lib.hid fun W h => by
               have := HLA'.out W _ (c :: r) h HUL.out
               rwa [decide_eq_true (by simp)] at this
             have hR1 : Hid (∀ W, Vec KU W (.slice p nl pc) (c :: r) → Calls Try.prog 16 #[.slice p nl pc] W fun x w' => x = .returned (.int .u32 (lateI c r)) ∧ W = w') := Lib.hid fun W h => HRL.out _ c r W h HUL.out
             generalize lateI c r = nv at hL1 hR1
             obtain ⟨ml, HML⟩ : ∃ nl : Nat, Hid ((List.map (addI a) (y :: m)).length = nl) := ⟨_, Lib.hid rfl⟩
             have hml : (0 : Int) < (ml : Int) := by have := HML.out; simp at this; omega
             rw [HML.out] at HO2 ⊢
             have hlat : laI (List.map (addI a) (y :: m)) = addI a mx := by
               have hy := HUM.out y List.mem_cons_self
               have h := lateI_near a m y (fun z hz => HUM.out z (List.mem_cons_of_mem _ hz)) hy.1 hy.2
               show lateI (addI a y) (List.map (addI a) m) = _
               rw [h, HMX.out, List.foldl_cons, show max 0 y = y by omega]
             have hL2 : Hid (∀ W, Vec KU W (.slice p2 ml pc2) (List.map (addI a) (y :: m)) → Calls Try.prog 15 #[.slice p2 ml pc2] W fun x w' => x = .returned (.tuple #[.int .u32 (addI a mx), .bool true]) ∧ W = w') := Lib.hid fun W h => by
               have := HLA'.out W _ _ h (fun x hx => by obtain ⟨z, _, rfl⟩ := List.mem_map.1 hx; exact ⟨addI_lo _ _, addI_hi _ _⟩)
               rw [hlat] at this
               rwa [decide_eq_true (by rw [List.length_map, List.length_cons]; omega)] at this
             have hV2 : Hid (Vec KU wr (.slice p2 ml pc2) (List.map (addI a) (y :: m))) := Lib.hid HO2.out.vec
             have hA2 := Lib.hid (HRA.out mx HMB.out)
             generalize addI a mx = mv at hL2 hA2
             have hV1 := Lib.hid HO.out.vec
             go_wp2_with (first
               | (go_at_call 15; (with_reducible refine (hL1.out _ hV1.out).mono ?_); rintro x w1 ⟨rfl, rfl⟩)
               | (go_at_call 15; (with_reducible refine (hL2.out _ hV2.out).mono ?_); rintro x w1 ⟨rfl, rfl⟩)
               | (go_at_call 16; (with_reducible refine (hR1.out _ hV1.out).mono ?_); rintro x w1 ⟨rfl, rfl⟩)
               | (go_at_call 11; (with_reducible refine (hA2.out _).mono ?_); rintro x w1 ⟨rfl, rfl⟩)
               | (go_at_call 12; (with_reducible refine (HLI.out _).mono ?_); rintro x w1 ⟨rfl, rfl⟩))
             go_ret
             exact ⟨rfl, HB2.out⟩
           · have hL1 : Hid (∀ W, Vec KU W (.slice p 0 pc) [] → Calls Try.prog 15 #[.slice p 0 pc] W fun x w' => x = .returned (.tuple #[.int .u32 0, .bool false]) ∧ W = w') := Lib.hid fun W h => HLA'.out W _ [] h (fun x hx => absurd hx (by simp))
             have hL2 : Hid (∀ W, Vec KU W (.slice p2 0 pc2) [] → Calls Try.prog 15 #[.slice p2 0 pc2] W fun x w' => x = .returned (.tuple #[.int .u32 0, .bool false]) ∧ W = w') := Lib.hid fun W h => HLA'.out W _ [] h (fun x hx => absurd hx (by simp))
             have hV2 : Hid (Vec KU wr (.slice p2 0 pc2) []) := Lib.hid HO2.out.vec
             have hV1 := Lib.hid HO.out.vec
             go_wp2_with (first
               | (go_at_call 15; (with_reducible refine (hL1.out _ hV1.out).mono ?_); rintro x w1 ⟨rfl, rfl⟩)
               | (go_at_call 15; (with_reducible refine (hL2.out _ hV2.out).mono ?_); rintro x w1 ⟨rfl, rfl⟩)
               | (go_at_call 12; (with_reducible refine (HLI.out _).mono ?_); rintro x w1 ⟨rfl, rfl⟩))
             go_ret
             exact ⟨rfl, HB2.out⟩
           · have hL1 : Hid (∀ W, Vec KU W (.slice p 0 pc) [] → Calls Try.prog 15 #[.slice p 0 pc] W fun x w' => x = .returned (.tuple #[.int .u32 0, .bool false]) ∧ W = w') := Lib.hid fun W h => HLA'.out W _ [] h (fun x hx => absurd hx (by simp))
             obtain ⟨ml, HML⟩ : ∃ nl : Nat, Hid ((List.map (addI a) (y :: m)).length = nl) := ⟨_, Lib.hid rfl⟩
             have hml : (0 : Int) < (ml : Int) := by have := HML.out; simp at this; omega
             rw [HML.out] at HO2 ⊢
             have hlat : laI (List.map (addI a) (y :: m)) = addI a mx := by
               have hy := HUM.out y List.mem_cons_self
               have h := lateI_near a m y (fun z hz => HUM.out z (List.mem_cons_of_mem _ hz)) hy.1 hy.2
               show lateI (addI a y) (List.map (addI a) m) = _
               rw [h, HMX.out, List.foldl_cons, show max 0 y = y by omega]
             have hL2 : Hid (∀ W, Vec KU W (.slice p2 ml pc2) (List.map (addI a) (y :: m)) → Calls Try.prog 15 #[.slice p2 ml pc2] W fun x w' => x = .returned (.tuple #[.int .u32 (addI a mx), .bool true]) ∧ W = w') := Lib.hid fun W h => by
               have := HLA'.out W _ _ h (fun x hx => by obtain ⟨z, _, rfl⟩ := List.mem_map.1 hx; exact ⟨addI_lo _ _, addI_hi _ _⟩)
               rw [hlat] at this
               rwa [decide_eq_true (by rw [List.length_map, List.length_cons]; omega)] at this
             have hV2 : Hid (Vec KU wr (.slice p2 ml pc2) (List.map (addI a) (y :: m))) := Lib.hid HO2.out.vec
             have hA2 := Lib.hid (HRA.out mx HMB.out)
             generalize addI a mx = mv at hL2 hA2
             have hV1 := Lib.hid HO.out.vec
             go_wp2_with (first
               | (go_at_call 15; (with_reducible refine (hL1.out _ hV1.out).mono ?_); rintro x w1 ⟨rfl, rfl⟩)
               | (go_at_call 15; (with_reducible refine (hL2.out _ hV2.out).mono ?_); rintro x w1 ⟨rfl, rfl⟩)
               | (go_at_call 11; (with_reducible refine (hA2.out _).mono ?_); rintro x w1 ⟨rfl, rfl⟩)
               | (go_at_call 12; (with_reducible refine (HLI.out _).mono ?_); rintro x w1 ⟨rfl, rfl⟩))
             go_ret
             exact ⟨rfl, HB2.out⟩
           · obtain ⟨nl, HNL⟩ : ∃ nl : Nat, Hid ((c :: r).length = nl) := ⟨_, Lib.hid rfl⟩
             have hnl : (0 : Int) < (nl : Int) := by have := HNL.out; simp at this; omega
             rw [HNL.out] at HO ⊢
             have hL1 : Hid (∀ W, Vec KU W (.slice p nl pc) (c :: r) → Calls Try.prog 15 #[.slice p nl pc] W fun x w' => x = .returned (.tuple #[.int .u32 (lateI c r), .bool true]) ∧ W = w') := Lib.hid fun W h => by
               have := HLA'.out W _ (c :: r) h HUL.out
               rwa [decide_eq_true (by simp)] at this
             have hR1 : Hid (∀ W, Vec KU W (.slice p nl pc) (c :: r) → Calls Try.prog 16 #[.slice p nl pc] W fun x w' => x = .returned (.int .u32 (lateI c r)) ∧ W = w') := Lib.hid fun W h => HRL.out _ c r W h HUL.out
             generalize lateI c r = nv at hL1 hR1
             have hL2 : Hid (∀ W, Vec KU W (.slice p2 0 pc2) [] → Calls Try.prog 15 #[.slice p2 0 pc2] W fun x w' => x = .returned (.tuple #[.int .u32 0, .bool false]) ∧ W = w') := Lib.hid fun W h => HLA'.out W _ [] h (fun x hx => absurd hx (by simp))
             have hV2 : Hid (Vec KU wr (.slice p2 0 pc2) []) := Lib.hid HO2.out.vec
             have hV1 := Lib.hid HO.out.vec
             go_wp2_with (first
               | (go_at_call 15; (with_reducible refine (hL1.out _ hV1.out).mono ?_); rintro x w1 ⟨rfl, rfl⟩)
               | (go_at_call 15; (with_reducible refine (hL2.out _ hV2.out).mono ?_); rintro x w1 ⟨rfl, rfl⟩)
               | (go_at_call 16; (with_reducible refine (hR1.out _ hV1.out).mono ?_); rintro x w1 ⟨rfl, rfl⟩)
               | (go_at_call 12; (with_reducible refine (HLI.out _).mono ?_); rintro x w1 ⟨rfl, rfl⟩))
             go_ret
             exact ⟨rfl, HB2.out⟩
           · obtain ⟨nl, HNL⟩ : ∃ nl : Nat, Hid ((c :: r).length = nl) := ⟨_, Lib.hid rfl⟩
             have hnl : (0 : Int) < (nl : Int) := by have := HNL.out; simp at this; omega
             rw [HNL.out] at HO ⊢
             have hL1 : Hid (∀ W, Vec KU W (.slice p nl pc) (c :: r) → Calls Try.prog 15 #[.slice p nl pc] W fun x w' => x = .returned (.tuple #[.int .u32 (lateI c r), .bool true]) ∧ W = w') := Lib.hid fun W h => by
               have := HLA'.out W _ (c :: r) h HUL.out
               rwa [decide_eq_true (by simp)] at this
             have hR1 : Hid (∀ W, Vec KU W (.slice p nl pc) (c :: r) → Calls Try.prog 16 #[.slice p nl pc] W fun x w' => x = .returned (.int .u32 (lateI c r)) ∧ W = w') := Lib.hid fun W h => HRL.out _ c r W h HUL.out
             generalize lateI c r = nv at hL1 hR1
             obtain ⟨ml, HML⟩ : ∃ nl : Nat, Hid ((List.map (addI a) (y :: m)).length = nl) := ⟨_, Lib.hid rfl⟩
             have hml : (0 : Int) < (ml : Int) := by have := HML.out; simp at this; omega
             rw [HML.out] at HO2 ⊢
             have hlat : laI (List.map (addI a) (y :: m)) = addI a mx := by
               have hy := HUM.out y List.mem_cons_self
               have h := lateI_near a m y (fun z hz => HUM.out z (List.mem_cons_of_mem _ hz)) hy.1 hy.2
               show lateI (addI a y) (List.map (addI a) m) = _
               rw [h, HMX.out, List.foldl_cons, show max 0 y = y by omega]
             have hL2 : Hid (∀ W, Vec KU W (.slice p2 ml pc2) (List.map (addI a) (y :: m)) → Calls Try.prog 15 #[.slice p2 ml pc2] W fun x w' => x = .returned (.tuple #[.int .u32 (addI a mx), .bool true]) ∧ W = w') := Lib.hid fun W h => by
               have := HLA'.out W _ _ h (fun x hx => by obtain ⟨z, _, rfl⟩ := List.mem_map.1 hx; exact ⟨addI_lo _ _, addI_hi _ _⟩)
               rw [hlat] at this
               rwa [decide_eq_true (by rw [List.length_map, List.length_cons]; omega)] at this
             have hV2 : Hid (Vec KU wr (.slice p2 ml pc2) (List.map (addI a) (y :: m))) := Lib.hid HO2.out.vec
             have hA2 := Lib.hid (HRA.out mx HMB.out)
             generalize addI a mx = mv at hL2 hA2
             have hV1 := Lib.hid HO.out.vec
             go_wp2_with (first
               | (go_at_call 15; (with_reducible refine (hL1.out _ hV1.out).mono ?_); rintro x w1 ⟨rfl, rfl⟩)
               | (go_at_call 15; (with_reducible refine (hL2.out _ hV2.out).mono ?_); rintro x w1 ⟨rfl, rfl⟩)
               | (go_at_call 16; (with_reducible refine (hR1.out _ hV1.out).mono ?_); rintro x w1 ⟨rfl, rfl⟩)
               | (go_at_call 11; (with_reducible refine (hA2.out _).mono ?_); rintro x w1 ⟨rfl, rfl⟩)
               | (go_at_call 12; (with_reducible refine (HLI.out _).mono ?_); rintro x w1 ⟨rfl, rfl⟩))
             go_ret
             exact ⟨rfl, HB2.out⟩)
end Go.Proofs.Ytdhjcjofdfjfgaa
