/-
  The document's answers of layer 12: Sorted.
-/
import Derived.Test.YtiegeejbnplhdaaCkD
namespace Go.Proofs.Ytiegeejbnplhdaa
open Go.RowKit
set_option linter.unusedVariables false
set_option linter.unusedSimpArgs false

theorem take_while_ofK {l : List (List UInt8)} {k : Nat} {a : List UInt8} (hk : k ≤ l.length) (h1 : ∀ x ∈ l.take k, ltK x a = true) (h2 : ∀ (h : k < l.length), ltK l[k] a = false) : l.takeWhile (ltK · a) = l.take k ∧ l.dropWhile (ltK · a) = l.drop k := by
  induction l generalizing k with
  | nil => simp at hk; subst hk; simp
  | cons b r ih =>
    cases k with
    | zero =>
      have := h2 (by simp)
      simp only [List.getElem_cons_zero] at this
      simp [this]
    | succ k =>
      have hb := h1 b (by simp)
      obtain ⟨e1, e2⟩ := ih (k := k) (by simpa using hk) (fun x hx => h1 x (by simp [hx])) (fun h => by have := h2 (by simpa using h); simpa using this)
      simp [hb, e1, e2]
theorem take_ltK_succ {l : List (List UInt8)} {a : List UInt8} {i : Nat} (hi : i < l.length) (h : ∀ x ∈ l.take i, ltK x a = true) (hn : ltK l[i] a = true) : ∀ x ∈ l.take (i + 1), ltK x a = true := by
  intro x hx
  rw [List.take_succ_eq_append_getElem hi, List.mem_append, List.mem_singleton] at hx
  rcases hx with hx | rfl
  · exact h x hx
  · exact hn
theorem sortK_succ {l : List (List UInt8)} {k : Nat} (h : k < l.length) : sortK (l.take (k + 1)) = insS ltK l[k] (sortK (l.take k)) := by
  unfold sortK
  rw [List.take_succ_eq_append_getElem h, List.foldl_append]
  rfl
theorem insS_len (a : List UInt8) (l : List (List UInt8)) : (insS ltK a l).length = l.length + 1 := by
  unfold insS
  have h := congrArg List.length (List.takeWhile_append_dropWhile (p := (ltK · a)) (l := l))
  simp only [List.length_append, List.length_cons] at h ⊢
  omega
theorem sortK_len : ∀ (l : List (List UInt8)), (sortK l).length = l.length := by
  have : ∀ (l acc : List (List UInt8)), (l.foldl (fun out k => insS ltK k out) acc).length = acc.length + l.length := by
    intro l
    induction l with
    | nil => intro acc; simp
    | cons a r ih => intro acc; rw [List.foldl_cons, ih, insS_len, List.length_cons]; omega
  intro l
  have := this l []
  simpa [sortK] using this
theorem wp_appT {w : World} {o : Oper} {a : Act} {K : Act → World → Prop} {Q : Exit → Act → World → Prop} (s x : Operand) (ho : o.op = .call { callee := .builtin .append, args := #[s, x], argTypes := #[36, 36] })
    (base : Nat) (v : Value) (ys zs : List (List UInt8)) (sv : Value) (hs : a.eval s = v) (hown : OwnV KS 9 w base v ys) (hx : a.eval x = sv) (hz : Src KS w sv zs) (hn : ys.length + zs.length ≤ 1000000000) (hbase : base ≤ w.heap.size)
    (h : ∀ v' w', OwnV KS 9 w' base v' (ys ++ zs) → w.grownBy w' v.ownBlock → K (a.put o.dst v') w') : o.wp Try.prog a w K Q := by
  obtain ⟨i0, hi0, hz0, hz1, hz2⟩ := info_partsV info_st
  exact wp_appV Try.underlying36 hi0 hz0 hz1 hz2 rfl (by omega) s x ho base v ys zs sv hs hown hx hz hn hbase h

set_option maxRecDepth 100000 in
set_option maxHeartbeats 4000000 in
theorem sorted12_any (v : Value) (l : List (List UInt8)) (w : World) (ha : Vec KS w v l) (hll : l.length ≤ 100000) : Calls Try.prog 30 #[v] w fun x w' => ∃ v', x = .returned v' ∧ Below w.heap.size w w' ∧ OwnV KS 9 w' w.heap.size v' (sortK l) := by
  obtain ⟨p0, cap0, rfl, h1, h2, _⟩ := ha.len
  have HRA : Hid (l ≠ [] → ∃ b o, p0 = some ⟨b, o, none⟩ ∧ b < w.heap.size ∧ KS.At w b o l) := Lib.hid fun hne => by
    obtain ⟨b, o, cap', e, _, _, h3, h4⟩ := ha.parts hne
    simp only [Value.slice.injEq] at e
    exact ⟨b, o, e.1, h3, h4⟩
  obtain ⟨n, hn⟩ : ∃ n, n = l.length := ⟨_, rfl⟩
  have hmx : n ≤ 100000 := by omega
  rw [← hn]
  have HN := Lib.hid hn
  clear ha hn h1 h2 hll
  go_enter Try.func30, Try.ntmps30
  go_wp2_with fail
  go_loopw [3, 4] (fun u i wr => ∃ k : Nat, k ≤ n ∧ i = .int .i64 k ∧ Hid (OwnV KS 9 wr w.heap.size u (sortK (l.take k))) ∧ Hid (Below w.heap.size w wr)) (fun _ i _ => n - (intOf i).toNat)
  case atStart => exact ⟨0, by omega, rfl, Lib.hid (World.ownsRow_lit w #[] 0 (Nat.le_refl _) (by unfold maxLen; omega) (by simp [sortK])), Lib.hid ((Below.refl _ _).alloc (Nat.le_refl _) _)⟩
  case round =>
    obtain ⟨k, hk, rfl, HO1, HB1⟩ := hrel
    rename World => w1
    by_cases hlt : k < n
    · have hk1 : (k : Int) < (n : Int) := by omega
      have hw1 : IntKind.i64.wrap ((k : Int) + 1) = (k : Int) + 1 := by simp only [IntKind.wrap_i64]; omega
      have g1 : k < l.length := by rw [← HN.out]; exact hlt
      obtain ⟨b, o, rfl, hbl, RA0⟩ := HRA.out (fun e => by rw [e] at g1; exact absurd g1 (by simp))
      have HRL : Hid (∀ W, Below w1.heap.size w1 W → W.cell? ⟨b, o + k, none⟩ = some (.string (Str l[k]))) := Lib.hid fun W h => KS_str (Kind.At.below RA0 hbl (bstep HB1.out h)) g1
      have HAD : Hid (∀ j, j ≤ (sortK (l.take k)).length → (∀ x ∈ (sortK (l.take k)).take j, ltK x l[k] = true) → (∀ h : j < (sortK (l.take k)).length, ltK (sortK (l.take k))[j] l[k] = false) → sortK (l.take (k + 1)) = (sortK (l.take k)).take j ++ l[k] :: (sortK (l.take k)).drop j) := Lib.hid fun j h1 h2 h3 => by
        obtain ⟨e1, e2⟩ := take_while_ofK h1 h2 h3
        rw [sortK_succ g1]
        unfold insS
        rw [e1, e2]
      have HML : Hid ((sortK (l.take k)).length ≤ 100000) := Lib.hid (by rw [sortK_len, List.length_take]; omega)
      generalize l[k] = c at HRL HAD
      generalize sortK (l.take k) = m at HO1 HAD HML
      clear RA0 g1
      obtain ⟨p, cap, rfl, h1, h2, _⟩ := (OwnV.vec HO1.out).len
      obtain ⟨nm, hnm⟩ : ∃ n, n = m.length := ⟨_, rfl⟩
      have HMN := Lib.hid hnm
      have hmm : nm ≤ 100000 := by rw [hnm]; exact HML.out
      have HCAP : Hid (nm ≤ cap ∧ cap ≤ maxLen) := Lib.hid ⟨by omega, h2⟩
      obtain ⟨S, hS⟩ : ∃ S : World → Prop, S = fun W => Below w1.heap.size w1 W := ⟨_, rfl⟩
      have HSE : Hid (∀ W, S W → Below w1.heap.size w1 W) := Lib.hid (by subst hS; exact fun W h => h)
      have HSI : Hid (∀ W, Below w1.heap.size w1 W → S W) := Lib.hid (by subst hS; exact fun W h => h)
      have HR2 : Hid (∀ p : InS S, p.W.cell? ⟨b, o + k, none⟩ = some (.string (Str c))) := Lib.hid fun p => HRL.out _ (HSE.out _ p.h)
      clear hS h1 h2
      rcases own_atV HO1.out with ⟨hp0, hc0, hl0⟩ | ⟨g, hp0, hgl, RA⟩
      · subst hp0
        obtain rfl : cap = 0 := hc0
        have hn0 : nm = 0 := by rw [hnm, hl0]; rfl
        rw [← hnm]
        clear hnm
        subst hn0
        go_wp2_with fail
        go_loopw [5] (fun i wr => i = .int .i64 0 ∧ Hid (Below w1.heap.size w1 wr)) (fun i _ => 0)
        case atStart => exact ⟨rfl, Lib.hid (Below.refl _ _)⟩
        case round =>
          obtain ⟨rfl, HBX⟩ := hrel
          rename World => wr
          have HS0 := Lib.hid (HSI.out wr.drew (bdrewN HBX.out 1))
          go_upto_region 6 with (fail)
          have hne : Nonempty (InS S) := ⟨⟨_, HS0.out⟩⟩
          refine wp_region_inS S (by kernel_rfl) (by kernel_rfl) HS0.out ?_
          repeat (go_big_quiet_step (fail))
          refine wpQuiet_nil ?_
          rintro _ ⟨⟨W2, hS2⟩, rfl⟩
          have HS2 := Lib.hid (HSE.out _ hS2)
          clear hS2 hne
          have HBX := HS2
          have HADD := Lib.hid (HAD.out 0 (Nat.zero_le _) (fun x hx => by simp at hx) (fun h => by rw [hl0] at h; exact absurd h (by simp)))
          have HST : Hid (∀ W, Below w1.heap.size w1 W → Src KS W (.slice none 0 0) (m.take 0)) := Lib.hid fun W h => Or.inl ⟨rfl, by simp⟩
          have HSD : Hid (∀ W, Below w1.heap.size w1 W → Src KS W (.slice none 0 0) (m.drop 0)) := Lib.hid fun W h => Or.inl ⟨rfl, by rw [hl0]; rfl⟩
          clear HS2 HS0 hl0
          rename World => Wc
          go_upto_region 8 with (fail)
          refine wp_region_held_drew (S := (fun W => W.cell? ⟨b, o + k, none⟩ = some (.string (Str c)))) (by kernel_rfl) (HRL.out Wc.drew (bdrewN HBX.out 1)) (fun hHeld => ?_)
          have HBd := Lib.hid (bdrewN HBX.out 1)
          generalize hWd : World.drew Wc = Wd at hHeld ⊢
          replace HBX := Lib.hid (show Below w1.heap.size w1 Wd from hWd ▸ HBd.out)
          clear HBd hWd
          rename World => Wc
          refine wpAnyH_take (i := 1) (oi := { dst := some 31, op := _, type := _, pos := _, after := _, guard := _ }) (v := ?v101) rfl (by kernel_rfl) (by kernel_rfl) (by kernel_rfl) (fun _ _ _ h => h) (Or.inl ⟨by rfl, ?y101⟩) (by assumption) ?r101
          case y101 => (intro w hSw; go_simp; try with_reducible rfl)
          try simp only [Act.put, List.setIfInBounds_toArray, List.set_cons_zero, List.set_cons_succ]
          refine wpAnyH_take (i := 2) (oi := { dst := some 32, op := _, type := _, pos := _, after := _, guard := _ }) (v := ?v102) rfl (by kernel_rfl) (by kernel_rfl) (by kernel_rfl) (fun _ _ _ h => h) (Or.inl ⟨by rfl, ?y102⟩) (by assumption) ?r102
          case y102 => (intro w hSw; go_simp; try with_reducible rfl)
          try simp only [Act.put, List.setIfInBounds_toArray, List.set_cons_zero, List.set_cons_succ]
          refine wpAnyH_take (i := 3) (oi := { dst := some 33, op := _, type := _, pos := _, after := _, guard := _ }) (v := ?v103) rfl (by kernel_rfl) (by kernel_rfl) (by kernel_rfl) (fun _ _ _ h => h) (Or.inl ⟨by rfl, ?y103⟩) (by assumption) ?r103
          case y103 => (intro w hSw; go_simp; try with_reducible rfl)
          try simp only [Act.put, List.setIfInBounds_toArray, List.set_cons_zero, List.set_cons_succ]
          refine wpAnyH_take (i := 5) (oi := { dst := some 35, op := _, type := _, pos := _, after := _, guard := _ }) (v := ?v104) rfl (by kernel_rfl) (by kernel_rfl) (by kernel_rfl) (fun _ _ _ h => h) (Or.inl ⟨by rfl, ?y104⟩) (by assumption) ?r104
          case y104 => (intro w hSw; go_simp; try with_reducible rfl)
          try simp only [Act.put, List.setIfInBounds_toArray, List.set_cons_zero, List.set_cons_succ]
          refine wpAnyH_take (i := 6) (oi := { dst := some 36, op := _, type := _, pos := _, after := _, guard := _ }) (v := ?v105) rfl (by kernel_rfl) (by kernel_rfl) (by kernel_rfl) (fun _ _ _ h => h) (Or.inl ⟨by rfl, ?y105⟩) (by assumption) ?r105
          case y105 => (intro w hSw; go_simp; try with_reducible rfl)
          try simp only [Act.put, List.setIfInBounds_toArray, List.set_cons_zero, List.set_cons_succ]
          refine wpAnyH_take (i := 7) (oi := { dst := some 37, op := _, type := _, pos := _, after := _, guard := _ }) (v := ?v106) rfl (by kernel_rfl) (by kernel_rfl) (by kernel_rfl) (fun _ _ _ h => h) (Or.inl ⟨by rfl, ?y106⟩) (by assumption) ?r106
          case y106 => (intro w hSw; go_simp; try with_reducible rfl)
          try simp only [Act.put, List.setIfInBounds_toArray, List.set_cons_zero, List.set_cons_succ]
          refine wpAnyH_take (i := 8) (oi := { dst := some 38, op := _, type := _, pos := _, after := _, guard := _ }) (v := ?v107) rfl (by kernel_rfl) (by kernel_rfl) (by kernel_rfl) (fun _ _ _ h => h) (Or.inl ⟨by rfl, ?y107⟩) (by assumption) ?r107
          case y107 => (intro w hSw; go_simp; try with_reducible rfl)
          try simp only [Act.put, List.setIfInBounds_toArray, List.set_cons_zero, List.set_cons_succ]
          refine wpAnyH_take (i := 11) (oi := { dst := some 41, op := _, type := _, pos := _, after := _, guard := _ }) (v := ?v108) rfl (by kernel_rfl) (by kernel_rfl) (by kernel_rfl) (fun _ _ _ h => h) (Or.inl ⟨by rfl, ?y108⟩) (by assumption) ?r108
          case y108 => (intro w hSw; go_simp; try with_reducible rfl)
          try simp only [Act.put, List.setIfInBounds_toArray, List.set_cons_zero, List.set_cons_succ]
          refine wpAnyH_take (i := 12) (oi := { dst := some 42, op := _, type := _, pos := _, after := _, guard := _ }) (v := ?v109) rfl (by kernel_rfl) (by kernel_rfl) (by kernel_rfl) (fun _ _ _ h => h) (Or.inl ⟨by rfl, ?y109⟩) (by assumption) ?r109
          case y109 => (intro w hSw; go_simp; try with_reducible rfl)
          try simp only [Act.put, List.setIfInBounds_toArray, List.set_cons_zero, List.set_cons_succ]
          refine wpAnyH_take (i := 13) (oi := { dst := some 43, op := _, type := _, pos := _, after := _, guard := _ }) (v := ?v110) rfl (by kernel_rfl) (by kernel_rfl) (by kernel_rfl) (fun _ _ _ h => h) (Or.inl ⟨by rfl, ?y110⟩) (by assumption) ?r110
          case y110 => (intro w hSw; go_simp; try with_reducible rfl)
          try simp only [Act.put, List.setIfInBounds_toArray, List.set_cons_zero, List.set_cons_succ]
          refine wpAnyH_ready (rs := [0, 9]) (by kernel_rfl) (by simp) (AllReadyH.cons (o := { dst := some 30, op := _, type := _, pos := _, after := _, guard := _ }) rfl (fun K hK => ?_) (AllReadyH.cons (o := { dst := some 39, op := _, type := _, pos := _, after := _, guard := _ }) rfl (fun K hK => ?_) AllReadyH.nil))
          · go_simp
            refine hK.out _ _ (HRL.out _ (bstep HBX.out (bbV Wc _))) (fun hHeld => ?_)
            clear hK K
            try simp only [Act.put, List.setIfInBounds_toArray, List.set_cons_zero, List.set_cons_succ]
            have HOW := Lib.hid (show OwnV KS 9 (Wc.alloc (.cells #[] 9)) w1.heap.size (.slice (some ⟨Wc.heap.size, 0, none⟩) 0 0) ([] : List (List UInt8)) from World.ownsRow_lit Wc #[] 0 HBX.out.size (by unfold maxLen; omega) (by simp))
            replace HBX := Lib.hid (bstep HBX.out (bbV Wc (.cells #[] 9)))
            generalize World.alloc Wc (.cells #[] _) = Wn at HBX HOW  hHeld ⊢
            generalize Wc.heap.size = g0 at HOW  ⊢
            rename World => Wc
            refine wpAnyH_ready (rs := [4, 9]) (by kernel_rfl) (by simp) (AllReadyH.cons (o := { dst := some 34, op := _, type := _, pos := _, after := _, guard := _ }) rfl (fun K hK => ?_) (AllReadyH.cons (o := { dst := some 39, op := _, type := _, pos := _, after := _, guard := _ }) rfl (fun K hK => ?_) AllReadyH.nil))
            · refine stepV rfl ?_
              refine wp_appT _ _ rfl w1.heap.size _ ([]) (m.take 0) _ rfl HOW.out rfl (HST.out _ HBX.out) (by have := HML.out; have := HMN.out; rw [List.length_take]; simp only [List.length_nil]; omega) HBX.out.size ?_
              intro v' w' hown' hgrow'
              have hge := OwnV.ge HOW.out
              have hbg := bgrown HBX.out hgrow' (fun k hk => (hge k hk).1)
              refine hK.out _ _ (HRL.out _ hbg) (fun hHeld => ?_)
              clear hK K
              try simp only [Act.put, List.setIfInBounds_toArray, List.set_cons_zero, List.set_cons_succ]
              replace HBX := Lib.hid hbg
              rw [List.nil_append] at hown'
              have HOW := Lib.hid hown'
              clear hown' hgrow' hbg hge
              rename World => Wc
              refine wpAnyH_ready (rs := [9]) (by kernel_rfl) (by simp) (AllReadyH.cons (o := { dst := some 39, op := _, type := _, pos := _, after := _, guard := _ }) rfl (fun K hK => ?_) AllReadyH.nil)
              go_simp
              refine hK.out _ _ (HRL.out _ (bstep HBX.out (bbV Wc _))) (fun hHeld => ?_)
              clear hK K
              try simp only [Act.put, List.setIfInBounds_toArray, List.set_cons_zero, List.set_cons_succ]
              have HL6 := Lib.hid (ObjAt.made Wc #[.string (Str c)] 9)
              replace HBX := Lib.hid (bstep HBX.out (bbV Wc (.cells #[.string (Str c)] 9)))
              replace HOW := Lib.hid (OwnV.below HOW.out (bbV Wc (.cells #[.string (Str c)] 9)))
              generalize World.alloc Wc (.cells _ _) = Wn at HBX HL6 HOW hHeld ⊢
              generalize Wc.heap.size = m6 at HL6  ⊢
              rename World => Wc
              refine wpAnyH_ready (rs := [10]) (by kernel_rfl) (by simp) (AllReadyH.cons (o := { dst := some 40, op := _, type := _, pos := _, after := _, guard := _ }) rfl (fun K hK => ?_) AllReadyH.nil)
              refine stepV rfl ?_
              refine wp_appT _ _ rfl w1.heap.size _ (m.take 0) ([c]) _ rfl HOW.out rfl (src_oneV HL6.out) (by have := HML.out; have := HMN.out; rw [List.length_take]; simp only [List.length_cons, List.length_nil]; omega) HBX.out.size ?_
              intro v' w' hown' hgrow'
              have hge := OwnV.ge HOW.out
              have hbg := bgrown HBX.out hgrow' (fun k hk => (hge k hk).1)
              refine hK.out _ _ (HRL.out _ hbg) (fun hHeld => ?_)
              clear hK K
              try simp only [Act.put, List.setIfInBounds_toArray, List.set_cons_zero, List.set_cons_succ]
              replace HBX := Lib.hid hbg
              clear HL6
              have HOW := Lib.hid hown'
              clear hown' hgrow' hbg hge
              rename World => Wc
              refine wpAnyH_ready (rs := [14]) (by kernel_rfl) (by simp) (AllReadyH.cons (o := { dst := some 44, op := _, type := _, pos := _, after := _, guard := _ }) rfl (fun K hK => ?_) AllReadyH.nil)
              refine stepV rfl ?_
              refine wp_appT _ _ rfl w1.heap.size _ (m.take 0 ++ [c]) (m.drop 0) _ rfl HOW.out rfl (HSD.out _ HBX.out) (by have := HML.out; have := HMN.out; rw [List.length_append, List.length_take, List.length_drop]; simp only [List.length_cons, List.length_nil]; omega) HBX.out.size ?_
              intro v' w' hown' hgrow'
              have hge := OwnV.ge HOW.out
              have hbg := bgrown HBX.out hgrow' (fun k hk => (hge k hk).1)
              refine hK.out _ _ (HRL.out _ hbg) (fun hHeld => ?_)
              clear hK K
              try simp only [Act.put, List.setIfInBounds_toArray, List.set_cons_zero, List.set_cons_succ]
              replace HBX := Lib.hid hbg
              skip
              have HOW := Lib.hid hown'
              clear hown' hgrow' hbg hge
              rename World => Wc
              refine wpAnyH_take (i := 15) (oi := { dst := some 3, op := _, type := _, pos := _, after := _, guard := _ }) (v := ?v111) rfl (by kernel_rfl) (by kernel_rfl) (by kernel_rfl) (fun _ _ _ h => h) (Or.inl ⟨by rfl, ?y111⟩) (by assumption) ?r111
              case y111 => (intro w hSw; go_simp; try with_reducible rfl)
              try simp only [Act.put, List.setIfInBounds_toArray, List.set_cons_zero, List.set_cons_succ]
              refine wpAnyH_done (by kernel_rfl) ?_ _
              go_wp2_with fail
              go_roundw
              all_goals first | exact ⟨k + 1, by omega, by go_num, Lib.hid (by rw [HADD.out]; exact OwnV.mono (by simpa using HOW.out) HB1.out.size), Lib.hid (bstep HB1.out HBX.out)⟩ | (simp [intOf]; omega)
            · go_simp
              refine hK.out _ _ (HRL.out _ (bstep HBX.out (bbV Wc _))) (fun hHeld => ?_)
              clear hK K
              try simp only [Act.put, List.setIfInBounds_toArray, List.set_cons_zero, List.set_cons_succ]
              have HL6 := Lib.hid (ObjAt.made Wc #[.string (Str c)] 9)
              have HM := Lib.hid (show Wc.heap.size ≠ g0 from by have := (OwnV.ge HOW.out g0 rfl).2; omega)
              replace HBX := Lib.hid (bstep HBX.out (bbV Wc (.cells #[.string (Str c)] 9)))
              replace HOW := Lib.hid (OwnV.below HOW.out (bbV Wc (.cells #[.string (Str c)] 9)))
              generalize World.alloc Wc (.cells _ _) = Wn at HBX HL6 HOW hHeld ⊢
              generalize Wc.heap.size = m6 at HL6 HM ⊢
              rename World => Wc
              refine wpAnyH_ready (rs := [4]) (by kernel_rfl) (by simp) (AllReadyH.cons (o := { dst := some 34, op := _, type := _, pos := _, after := _, guard := _ }) rfl (fun K hK => ?_) AllReadyH.nil)
              refine stepV rfl ?_
              refine wp_appT _ _ rfl w1.heap.size _ ([]) (m.take 0) _ rfl HOW.out rfl (HST.out _ HBX.out) (by have := HML.out; have := HMN.out; rw [List.length_take]; simp only [List.length_nil]; omega) HBX.out.size ?_
              intro v' w' hown' hgrow'
              have hge := OwnV.ge HOW.out
              have hbg := bgrown HBX.out hgrow' (fun k hk => (hge k hk).1)
              refine hK.out _ _ (HRL.out _ hbg) (fun hHeld => ?_)
              clear hK K
              try simp only [Act.put, List.setIfInBounds_toArray, List.set_cons_zero, List.set_cons_succ]
              replace HL6 := Lib.hid (HL6.out.grown hgrow' (fun e => HM.out (by have e2 : some m6 = some g0 := e; cases e2; rfl)))
              replace HBX := Lib.hid hbg
              rw [List.nil_append] at hown'
              have HOW := Lib.hid hown'
              clear hown' hgrow' hbg hge
              rename World => Wc
              refine wpAnyH_ready (rs := [10]) (by kernel_rfl) (by simp) (AllReadyH.cons (o := { dst := some 40, op := _, type := _, pos := _, after := _, guard := _ }) rfl (fun K hK => ?_) AllReadyH.nil)
              refine stepV rfl ?_
              refine wp_appT _ _ rfl w1.heap.size _ (m.take 0) ([c]) _ rfl HOW.out rfl (src_oneV HL6.out) (by have := HML.out; have := HMN.out; rw [List.length_take]; simp only [List.length_cons, List.length_nil]; omega) HBX.out.size ?_
              intro v' w' hown' hgrow'
              have hge := OwnV.ge HOW.out
              have hbg := bgrown HBX.out hgrow' (fun k hk => (hge k hk).1)
              refine hK.out _ _ (HRL.out _ hbg) (fun hHeld => ?_)
              clear hK K
              try simp only [Act.put, List.setIfInBounds_toArray, List.set_cons_zero, List.set_cons_succ]
              replace HBX := Lib.hid hbg
              clear HL6
              have HOW := Lib.hid hown'
              clear hown' hgrow' hbg hge
              rename World => Wc
              refine wpAnyH_ready (rs := [14]) (by kernel_rfl) (by simp) (AllReadyH.cons (o := { dst := some 44, op := _, type := _, pos := _, after := _, guard := _ }) rfl (fun K hK => ?_) AllReadyH.nil)
              refine stepV rfl ?_
              refine wp_appT _ _ rfl w1.heap.size _ (m.take 0 ++ [c]) (m.drop 0) _ rfl HOW.out rfl (HSD.out _ HBX.out) (by have := HML.out; have := HMN.out; rw [List.length_append, List.length_take, List.length_drop]; simp only [List.length_cons, List.length_nil]; omega) HBX.out.size ?_
              intro v' w' hown' hgrow'
              have hge := OwnV.ge HOW.out
              have hbg := bgrown HBX.out hgrow' (fun k hk => (hge k hk).1)
              refine hK.out _ _ (HRL.out _ hbg) (fun hHeld => ?_)
              clear hK K
              try simp only [Act.put, List.setIfInBounds_toArray, List.set_cons_zero, List.set_cons_succ]
              replace HBX := Lib.hid hbg
              skip
              have HOW := Lib.hid hown'
              clear hown' hgrow' hbg hge
              rename World => Wc
              refine wpAnyH_take (i := 15) (oi := { dst := some 3, op := _, type := _, pos := _, after := _, guard := _ }) (v := ?v112) rfl (by kernel_rfl) (by kernel_rfl) (by kernel_rfl) (fun _ _ _ h => h) (Or.inl ⟨by rfl, ?y112⟩) (by assumption) ?r112
              case y112 => (intro w hSw; go_simp; try with_reducible rfl)
              try simp only [Act.put, List.setIfInBounds_toArray, List.set_cons_zero, List.set_cons_succ]
              refine wpAnyH_done (by kernel_rfl) ?_ _
              go_wp2_with fail
              go_roundw
              all_goals first | exact ⟨k + 1, by omega, by go_num, Lib.hid (by rw [HADD.out]; exact OwnV.mono (by simpa using HOW.out) HB1.out.size), Lib.hid (bstep HB1.out HBX.out)⟩ | (simp [intOf]; omega)
          · go_simp
            refine hK.out _ _ (HRL.out _ (bstep HBX.out (bbV Wc _))) (fun hHeld => ?_)
            clear hK K
            try simp only [Act.put, List.setIfInBounds_toArray, List.set_cons_zero, List.set_cons_succ]
            have HL6 := Lib.hid (ObjAt.made Wc #[.string (Str c)] 9)
            replace HBX := Lib.hid (bstep HBX.out (bbV Wc (.cells #[.string (Str c)] 9)))
            generalize World.alloc Wc (.cells _ _) = Wn at HBX HL6  hHeld ⊢
            generalize Wc.heap.size = m6 at HL6  ⊢
            rename World => Wc
            refine wpAnyH_ready (rs := [0]) (by kernel_rfl) (by simp) (AllReadyH.cons (o := { dst := some 30, op := _, type := _, pos := _, after := _, guard := _ }) rfl (fun K hK => ?_) AllReadyH.nil)
            go_simp
            refine hK.out _ _ (HRL.out _ (bstep HBX.out (bbV Wc _))) (fun hHeld => ?_)
            clear hK K
            try simp only [Act.put, List.setIfInBounds_toArray, List.set_cons_zero, List.set_cons_succ]
            have HOW := Lib.hid (show OwnV KS 9 (Wc.alloc (.cells #[] 9)) w1.heap.size (.slice (some ⟨Wc.heap.size, 0, none⟩) 0 0) ([] : List (List UInt8)) from World.ownsRow_lit Wc #[] 0 HBX.out.size (by unfold maxLen; omega) (by simp))
            have HM := Lib.hid (show m6 ≠ Wc.heap.size from by have := HL6.out.lt; omega)
            replace HBX := Lib.hid (bstep HBX.out (bbV Wc (.cells #[] 9)))
            replace HL6 := Lib.hid (HL6.out.below (bbV Wc (.cells #[] 9)) HL6.out.lt)
            generalize World.alloc Wc (.cells #[] _) = Wn at HBX HOW HL6 hHeld ⊢
            generalize Wc.heap.size = g0 at HOW HM ⊢
            rename World => Wc
            refine wpAnyH_ready (rs := [4]) (by kernel_rfl) (by simp) (AllReadyH.cons (o := { dst := some 34, op := _, type := _, pos := _, after := _, guard := _ }) rfl (fun K hK => ?_) AllReadyH.nil)
            refine stepV rfl ?_
            refine wp_appT _ _ rfl w1.heap.size _ ([]) (m.take 0) _ rfl HOW.out rfl (HST.out _ HBX.out) (by have := HML.out; have := HMN.out; rw [List.length_take]; simp only [List.length_nil]; omega) HBX.out.size ?_
            intro v' w' hown' hgrow'
            have hge := OwnV.ge HOW.out
            have hbg := bgrown HBX.out hgrow' (fun k hk => (hge k hk).1)
            refine hK.out _ _ (HRL.out _ hbg) (fun hHeld => ?_)
            clear hK K
            try simp only [Act.put, List.setIfInBounds_toArray, List.set_cons_zero, List.set_cons_succ]
            replace HL6 := Lib.hid (HL6.out.grown hgrow' (fun e => HM.out (by have e2 : some m6 = some g0 := e; cases e2; rfl)))
            replace HBX := Lib.hid hbg
            rw [List.nil_append] at hown'
            have HOW := Lib.hid hown'
            clear hown' hgrow' hbg hge
            rename World => Wc
            refine wpAnyH_ready (rs := [10]) (by kernel_rfl) (by simp) (AllReadyH.cons (o := { dst := some 40, op := _, type := _, pos := _, after := _, guard := _ }) rfl (fun K hK => ?_) AllReadyH.nil)
            refine stepV rfl ?_
            refine wp_appT _ _ rfl w1.heap.size _ (m.take 0) ([c]) _ rfl HOW.out rfl (src_oneV HL6.out) (by have := HML.out; have := HMN.out; rw [List.length_take]; simp only [List.length_cons, List.length_nil]; omega) HBX.out.size ?_
            intro v' w' hown' hgrow'
            have hge := OwnV.ge HOW.out
            have hbg := bgrown HBX.out hgrow' (fun k hk => (hge k hk).1)
            refine hK.out _ _ (HRL.out _ hbg) (fun hHeld => ?_)
            clear hK K
            try simp only [Act.put, List.setIfInBounds_toArray, List.set_cons_zero, List.set_cons_succ]
            replace HBX := Lib.hid hbg
            clear HL6
            have HOW := Lib.hid hown'
            clear hown' hgrow' hbg hge
            rename World => Wc
            refine wpAnyH_ready (rs := [14]) (by kernel_rfl) (by simp) (AllReadyH.cons (o := { dst := some 44, op := _, type := _, pos := _, after := _, guard := _ }) rfl (fun K hK => ?_) AllReadyH.nil)
            refine stepV rfl ?_
            refine wp_appT _ _ rfl w1.heap.size _ (m.take 0 ++ [c]) (m.drop 0) _ rfl HOW.out rfl (HSD.out _ HBX.out) (by have := HML.out; have := HMN.out; rw [List.length_append, List.length_take, List.length_drop]; simp only [List.length_cons, List.length_nil]; omega) HBX.out.size ?_
            intro v' w' hown' hgrow'
            have hge := OwnV.ge HOW.out
            have hbg := bgrown HBX.out hgrow' (fun k hk => (hge k hk).1)
            refine hK.out _ _ (HRL.out _ hbg) (fun hHeld => ?_)
            clear hK K
            try simp only [Act.put, List.setIfInBounds_toArray, List.set_cons_zero, List.set_cons_succ]
            replace HBX := Lib.hid hbg
            skip
            have HOW := Lib.hid hown'
            clear hown' hgrow' hbg hge
            rename World => Wc
            refine wpAnyH_take (i := 15) (oi := { dst := some 3, op := _, type := _, pos := _, after := _, guard := _ }) (v := ?v113) rfl (by kernel_rfl) (by kernel_rfl) (by kernel_rfl) (fun _ _ _ h => h) (Or.inl ⟨by rfl, ?y113⟩) (by assumption) ?r113
            case y113 => (intro w hSw; go_simp; try with_reducible rfl)
            try simp only [Act.put, List.setIfInBounds_toArray, List.set_cons_zero, List.set_cons_succ]
            refine wpAnyH_done (by kernel_rfl) ?_ _
            go_wp2_with fail
            go_roundw
            all_goals first | exact ⟨k + 1, by omega, by go_num, Lib.hid (by rw [HADD.out]; exact OwnV.mono (by simpa using HOW.out) HB1.out.size), Lib.hid (bstep HB1.out HBX.out)⟩ | (simp [intOf]; omega)
      · subst hp0
        rw [← hnm]
        have RAX := Lib.hid RA
        clear hnm
        go_wp2_with fail
        go_loopw [5] (fun i wr => ∃ j : Nat, j ≤ nm ∧ i = .int .i64 j ∧ Hid (∀ x ∈ m.take j, ltK x c = true) ∧ Hid (Below w1.heap.size w1 wr)) (fun i _ => nm - (intOf i).toNat)
        case atStart => exact ⟨0, by omega, rfl, Lib.hid (by simp), Lib.hid (Below.refl _ _)⟩
        case round =>
          obtain ⟨j, hj, rfl, HT, HBX⟩ := hrel
          rename World => wr
          have HS0 := Lib.hid (HSI.out wr.drew (bdrewN HBX.out 1))
          have hwj : IntKind.i64.wrap ((j : Int) + 1) = (j : Int) + 1 := by simp only [IntKind.wrap_i64]; omega
          by_cases hjl : j < nm
          · have hj1 : (j : Int) < (nm : Int) := by omega
            have g2 : j < m.length := by rw [← HMN.out]; exact hjl
            have HR1 : Hid (∀ p : InS S, p.W.cell? ⟨g, j, none⟩ = some (.string (Str m[j]))) := Lib.hid fun p => by
              have := KS_str (Kind.At.below RAX.out hgl (HSE.out _ p.h)) g2
              rwa [Nat.zero_add] at this
            have hq := str_lessK m[j] c
            cases hh : ltK m[j] c with
            | true =>
              rw [hh] at hq
              have HTS := Lib.hid (take_ltK_succ g2 HT.out hh)
              generalize m[j] = cj at *
              clear hh g2 RA hgl
              go_upto_region 6 with (fail)
              have fr1 := HR1.out
              have fr2 := HR2.out
              have hne : Nonempty (InS S) := ⟨⟨_, HS0.out⟩⟩
              refine wp_region_inS S (by kernel_rfl) (by kernel_rfl) HS0.out ?_
              repeat (go_big_quiet_step (fail))
              refine wpQuiet_nil ?_
              rintro _ ⟨⟨W2, hS2⟩, rfl⟩
              have HS2 := Lib.hid (HSE.out _ hS2)
              clear hS2 hne
              clear fr1 fr2
              go_wp2
              go_roundw
              case rel => exact ⟨j + 1, by omega, by go_num, HTS, HS2⟩
              case measure => simp [intOf]; omega
            | false =>
              rw [hh] at hq
              have HADD := Lib.hid (HAD.out j (Nat.le_of_lt g2) HT.out (fun _ => hh))
              generalize m[j] = cj at *
              go_upto_region 6 with (fail)
              have fr1 := HR1.out
              have fr2 := HR2.out
              have hne : Nonempty (InS S) := ⟨⟨_, HS0.out⟩⟩
              refine wp_region_inS S (by kernel_rfl) (by kernel_rfl) HS0.out ?_
              repeat (go_big_quiet_step (fail))
              refine wpQuiet_nil ?_
              rintro _ ⟨⟨W2, hS2⟩, rfl⟩
              have HS2 := Lib.hid (HSE.out _ hS2)
              clear hS2 hne
              clear fr1 fr2 HR1 hh g2 hq
              have HBX := HS2
              have HST : Hid (∀ W, Below w1.heap.size w1 W → Src KS W (.slice (some ⟨g, 0, none⟩) j cap) (m.take j)) := Lib.hid fun W h => src_takeV (Kind.At.below RAX.out hgl h) (by have := HMN.out; omega)
              have HSD : Hid (∀ W, Below w1.heap.size w1 W → Src KS W (.slice (if cap = j then some ⟨g, 0, none⟩ else some ⟨g, j, none⟩) (nm - j) (cap - j)) (m.drop j)) := Lib.hid fun W h => by
                have := src_dropV (cap := cap) (c := cap - j) (Kind.At.below RAX.out hgl h) HMN.out hj HCAP.out.1
                rw [Nat.zero_add, show j * KS.n = j from Nat.mul_one j] at this
                exact this
              obtain ⟨q40, hif⟩ : ∃ q, (if cap = j then some (⟨g, 0, none⟩ : Addr) else some ⟨g, j, none⟩) = q := ⟨_, rfl⟩
              rw [hif] at HSD
              clear HS2 HS0 RA hgl
              rename World => Wc
              have hkc : j ≤ cap := by have := HCAP.out.1; omega
              have hnc : nm ≤ cap := HCAP.out.1
              go_upto_region 8 with (fail)
              refine wp_region_held_drew (S := (fun W => W.cell? ⟨b, o + k, none⟩ = some (.string (Str c)))) (by kernel_rfl) (HRL.out Wc.drew (bdrewN HBX.out 1)) (fun hHeld => ?_)
              have HBd := Lib.hid (bdrewN HBX.out 1)
              generalize hWd : World.drew Wc = Wd at hHeld ⊢
              replace HBX := Lib.hid (show Below w1.heap.size w1 Wd from hWd ▸ HBd.out)
              clear HBd hWd
              rename World => Wc
              refine wpAnyH_take (i := 1) (oi := { dst := some 31, op := _, type := _, pos := _, after := _, guard := _ }) (v := ?v201) rfl (by kernel_rfl) (by kernel_rfl) (by kernel_rfl) (fun _ _ _ h => h) (Or.inl ⟨by rfl, ?y201⟩) (by assumption) ?r201
              case y201 => (intro w hSw; go_simp; try with_reducible rfl)
              try simp only [Act.put, List.setIfInBounds_toArray, List.set_cons_zero, List.set_cons_succ]
              refine wpAnyH_take (i := 2) (oi := { dst := some 32, op := _, type := _, pos := _, after := _, guard := _ }) (v := ?v202) rfl (by kernel_rfl) (by kernel_rfl) (by kernel_rfl) (fun _ _ _ h => h) (Or.inl ⟨by rfl, ?y202⟩) (by assumption) ?r202
              case y202 => (intro w hSw; go_simp; try with_reducible rfl)
              try simp only [Act.put, List.setIfInBounds_toArray, List.set_cons_zero, List.set_cons_succ]
              refine wpAnyH_take (i := 3) (oi := { dst := some 33, op := _, type := _, pos := _, after := _, guard := _ }) (v := ?v203) rfl (by kernel_rfl) (by kernel_rfl) (by kernel_rfl) (fun _ _ _ h => h) (Or.inl ⟨by rfl, ?y203⟩) (by assumption) ?r203
              case y203 => (intro w hSw; go_simp; try with_reducible rfl)
              try simp only [Act.put, List.setIfInBounds_toArray, List.set_cons_zero, List.set_cons_succ]
              refine wpAnyH_take (i := 5) (oi := { dst := some 35, op := _, type := _, pos := _, after := _, guard := _ }) (v := ?v204) rfl (by kernel_rfl) (by kernel_rfl) (by kernel_rfl) (fun _ _ _ h => h) (Or.inl ⟨by rfl, ?y204⟩) (by assumption) ?r204
              case y204 => (intro w hSw; go_simp; try with_reducible rfl)
              try simp only [Act.put, List.setIfInBounds_toArray, List.set_cons_zero, List.set_cons_succ]
              refine wpAnyH_take (i := 6) (oi := { dst := some 36, op := _, type := _, pos := _, after := _, guard := _ }) (v := ?v205) rfl (by kernel_rfl) (by kernel_rfl) (by kernel_rfl) (fun _ _ _ h => h) (Or.inl ⟨by rfl, ?y205⟩) (by assumption) ?r205
              case y205 => (intro w hSw; go_simp; try with_reducible rfl)
              try simp only [Act.put, List.setIfInBounds_toArray, List.set_cons_zero, List.set_cons_succ]
              refine wpAnyH_take (i := 7) (oi := { dst := some 37, op := _, type := _, pos := _, after := _, guard := _ }) (v := ?v206) rfl (by kernel_rfl) (by kernel_rfl) (by kernel_rfl) (fun _ _ _ h => h) (Or.inl ⟨by rfl, ?y206⟩) (by assumption) ?r206
              case y206 => (intro w hSw; go_simp; try with_reducible rfl)
              try simp only [Act.put, List.setIfInBounds_toArray, List.set_cons_zero, List.set_cons_succ]
              refine wpAnyH_take (i := 8) (oi := { dst := some 38, op := _, type := _, pos := _, after := _, guard := _ }) (v := ?v207) rfl (by kernel_rfl) (by kernel_rfl) (by kernel_rfl) (fun _ _ _ h => h) (Or.inl ⟨by rfl, ?y207⟩) (by assumption) ?r207
              case y207 => (intro w hSw; go_simp; try with_reducible rfl)
              try simp only [Act.put, List.setIfInBounds_toArray, List.set_cons_zero, List.set_cons_succ]
              refine wpAnyH_take (i := 11) (oi := { dst := some 41, op := _, type := _, pos := _, after := _, guard := _ }) (v := ?v208) rfl (by kernel_rfl) (by kernel_rfl) (by kernel_rfl) (fun _ _ _ h => h) (Or.inl ⟨by rfl, ?y208⟩) (by assumption) ?r208
              case y208 => (intro w hSw; go_simp; try with_reducible rfl)
              try simp only [Act.put, List.setIfInBounds_toArray, List.set_cons_zero, List.set_cons_succ]
              refine wpAnyH_take (i := 12) (oi := { dst := some 42, op := _, type := _, pos := _, after := _, guard := _ }) (v := ?v209) rfl (by kernel_rfl) (by kernel_rfl) (by kernel_rfl) (fun _ _ _ h => h) (Or.inl ⟨by rfl, ?y209⟩) (by assumption) ?r209
              case y209 => (intro w hSw; go_simp; try with_reducible rfl)
              try simp only [Act.put, List.setIfInBounds_toArray, List.set_cons_zero, List.set_cons_succ]
              refine wpAnyH_take (i := 13) (oi := { dst := some 43, op := _, type := _, pos := _, after := _, guard := _ }) (v := ?v210) rfl (by kernel_rfl) (by kernel_rfl) (by kernel_rfl) (fun _ _ _ h => h) (Or.inl ⟨by rfl, ?y210⟩) (by assumption) ?r210
              case y210 => (intro w hSw; go_simp; try with_reducible rfl)
              try simp only [Act.put, List.setIfInBounds_toArray, List.set_cons_zero, List.set_cons_succ]
              refine wpAnyH_ready (rs := [0, 9]) (by kernel_rfl) (by simp) (AllReadyH.cons (o := { dst := some 30, op := _, type := _, pos := _, after := _, guard := _ }) rfl (fun K hK => ?_) (AllReadyH.cons (o := { dst := some 39, op := _, type := _, pos := _, after := _, guard := _ }) rfl (fun K hK => ?_) AllReadyH.nil))
              · go_simp
                refine hK.out _ _ (HRL.out _ (bstep HBX.out (bbV Wc _))) (fun hHeld => ?_)
                clear hK K
                try simp only [Act.put, List.setIfInBounds_toArray, List.set_cons_zero, List.set_cons_succ]
                have HOW := Lib.hid (show OwnV KS 9 (Wc.alloc (.cells #[] 9)) w1.heap.size (.slice (some ⟨Wc.heap.size, 0, none⟩) 0 0) ([] : List (List UInt8)) from World.ownsRow_lit Wc #[] 0 HBX.out.size (by unfold maxLen; omega) (by simp))
                replace HBX := Lib.hid (bstep HBX.out (bbV Wc (.cells #[] 9)))
                generalize World.alloc Wc (.cells #[] _) = Wn at HBX HOW  hHeld ⊢
                generalize Wc.heap.size = g0 at HOW  ⊢
                rename World => Wc
                refine wpAnyH_ready (rs := [4, 9]) (by kernel_rfl) (by simp) (AllReadyH.cons (o := { dst := some 34, op := _, type := _, pos := _, after := _, guard := _ }) rfl (fun K hK => ?_) (AllReadyH.cons (o := { dst := some 39, op := _, type := _, pos := _, after := _, guard := _ }) rfl (fun K hK => ?_) AllReadyH.nil))
                · refine stepV rfl ?_
                  refine wp_appT _ _ rfl w1.heap.size _ ([]) (m.take j) _ rfl HOW.out rfl (HST.out _ HBX.out) (by have := HML.out; have := HMN.out; rw [List.length_take]; simp only [List.length_nil]; omega) HBX.out.size ?_
                  intro v' w' hown' hgrow'
                  have hge := OwnV.ge HOW.out
                  have hbg := bgrown HBX.out hgrow' (fun k hk => (hge k hk).1)
                  refine hK.out _ _ (HRL.out _ hbg) (fun hHeld => ?_)
                  clear hK K
                  try simp only [Act.put, List.setIfInBounds_toArray, List.set_cons_zero, List.set_cons_succ]
                  replace HBX := Lib.hid hbg
                  rw [List.nil_append] at hown'
                  have HOW := Lib.hid hown'
                  clear hown' hgrow' hbg hge
                  rename World => Wc
                  refine wpAnyH_ready (rs := [9]) (by kernel_rfl) (by simp) (AllReadyH.cons (o := { dst := some 39, op := _, type := _, pos := _, after := _, guard := _ }) rfl (fun K hK => ?_) AllReadyH.nil)
                  go_simp
                  refine hK.out _ _ (HRL.out _ (bstep HBX.out (bbV Wc _))) (fun hHeld => ?_)
                  clear hK K
                  try simp only [Act.put, List.setIfInBounds_toArray, List.set_cons_zero, List.set_cons_succ]
                  have HL6 := Lib.hid (ObjAt.made Wc #[.string (Str c)] 9)
                  replace HBX := Lib.hid (bstep HBX.out (bbV Wc (.cells #[.string (Str c)] 9)))
                  replace HOW := Lib.hid (OwnV.below HOW.out (bbV Wc (.cells #[.string (Str c)] 9)))
                  generalize World.alloc Wc (.cells _ _) = Wn at HBX HL6 HOW hHeld ⊢
                  generalize Wc.heap.size = m6 at HL6  ⊢
                  rename World => Wc
                  refine wpAnyH_ready (rs := [10]) (by kernel_rfl) (by simp) (AllReadyH.cons (o := { dst := some 40, op := _, type := _, pos := _, after := _, guard := _ }) rfl (fun K hK => ?_) AllReadyH.nil)
                  refine stepV rfl ?_
                  refine wp_appT _ _ rfl w1.heap.size _ (m.take j) ([c]) _ rfl HOW.out rfl (src_oneV HL6.out) (by have := HML.out; have := HMN.out; rw [List.length_take]; simp only [List.length_cons, List.length_nil]; omega) HBX.out.size ?_
                  intro v' w' hown' hgrow'
                  have hge := OwnV.ge HOW.out
                  have hbg := bgrown HBX.out hgrow' (fun k hk => (hge k hk).1)
                  refine hK.out _ _ (HRL.out _ hbg) (fun hHeld => ?_)
                  clear hK K
                  try simp only [Act.put, List.setIfInBounds_toArray, List.set_cons_zero, List.set_cons_succ]
                  replace HBX := Lib.hid hbg
                  clear HL6
                  have HOW := Lib.hid hown'
                  clear hown' hgrow' hbg hge
                  rename World => Wc
                  refine wpAnyH_ready (rs := [14]) (by kernel_rfl) (by simp) (AllReadyH.cons (o := { dst := some 44, op := _, type := _, pos := _, after := _, guard := _ }) rfl (fun K hK => ?_) AllReadyH.nil)
                  refine stepV rfl ?_
                  refine wp_appT _ _ rfl w1.heap.size _ (m.take j ++ [c]) (m.drop j) _ rfl HOW.out rfl (HSD.out _ HBX.out) (by have := HML.out; have := HMN.out; rw [List.length_append, List.length_take, List.length_drop]; simp only [List.length_cons, List.length_nil]; omega) HBX.out.size ?_
                  intro v' w' hown' hgrow'
                  have hge := OwnV.ge HOW.out
                  have hbg := bgrown HBX.out hgrow' (fun k hk => (hge k hk).1)
                  refine hK.out _ _ (HRL.out _ hbg) (fun hHeld => ?_)
                  clear hK K
                  try simp only [Act.put, List.setIfInBounds_toArray, List.set_cons_zero, List.set_cons_succ]
                  replace HBX := Lib.hid hbg
                  skip
                  have HOW := Lib.hid hown'
                  clear hown' hgrow' hbg hge
                  rename World => Wc
                  refine wpAnyH_take (i := 15) (oi := { dst := some 3, op := _, type := _, pos := _, after := _, guard := _ }) (v := ?v211) rfl (by kernel_rfl) (by kernel_rfl) (by kernel_rfl) (fun _ _ _ h => h) (Or.inl ⟨by rfl, ?y211⟩) (by assumption) ?r211
                  case y211 => (intro w hSw; go_simp; try with_reducible rfl)
                  try simp only [Act.put, List.setIfInBounds_toArray, List.set_cons_zero, List.set_cons_succ]
                  refine wpAnyH_done (by kernel_rfl) ?_ _
                  go_wp2_with fail
                  go_roundw
                  all_goals first | exact ⟨k + 1, by omega, by go_num, Lib.hid (by rw [HADD.out]; exact OwnV.mono (by simpa using HOW.out) HB1.out.size), Lib.hid (bstep HB1.out HBX.out)⟩ | (simp [intOf]; omega)
                · go_simp
                  refine hK.out _ _ (HRL.out _ (bstep HBX.out (bbV Wc _))) (fun hHeld => ?_)
                  clear hK K
                  try simp only [Act.put, List.setIfInBounds_toArray, List.set_cons_zero, List.set_cons_succ]
                  have HL6 := Lib.hid (ObjAt.made Wc #[.string (Str c)] 9)
                  have HM := Lib.hid (show Wc.heap.size ≠ g0 from by have := (OwnV.ge HOW.out g0 rfl).2; omega)
                  replace HBX := Lib.hid (bstep HBX.out (bbV Wc (.cells #[.string (Str c)] 9)))
                  replace HOW := Lib.hid (OwnV.below HOW.out (bbV Wc (.cells #[.string (Str c)] 9)))
                  generalize World.alloc Wc (.cells _ _) = Wn at HBX HL6 HOW hHeld ⊢
                  generalize Wc.heap.size = m6 at HL6 HM ⊢
                  rename World => Wc
                  refine wpAnyH_ready (rs := [4]) (by kernel_rfl) (by simp) (AllReadyH.cons (o := { dst := some 34, op := _, type := _, pos := _, after := _, guard := _ }) rfl (fun K hK => ?_) AllReadyH.nil)
                  refine stepV rfl ?_
                  refine wp_appT _ _ rfl w1.heap.size _ ([]) (m.take j) _ rfl HOW.out rfl (HST.out _ HBX.out) (by have := HML.out; have := HMN.out; rw [List.length_take]; simp only [List.length_nil]; omega) HBX.out.size ?_
                  intro v' w' hown' hgrow'
                  have hge := OwnV.ge HOW.out
                  have hbg := bgrown HBX.out hgrow' (fun k hk => (hge k hk).1)
                  refine hK.out _ _ (HRL.out _ hbg) (fun hHeld => ?_)
                  clear hK K
                  try simp only [Act.put, List.setIfInBounds_toArray, List.set_cons_zero, List.set_cons_succ]
                  replace HL6 := Lib.hid (HL6.out.grown hgrow' (fun e => HM.out (by have e2 : some m6 = some g0 := e; cases e2; rfl)))
                  replace HBX := Lib.hid hbg
                  rw [List.nil_append] at hown'
                  have HOW := Lib.hid hown'
                  clear hown' hgrow' hbg hge
                  rename World => Wc
                  refine wpAnyH_ready (rs := [10]) (by kernel_rfl) (by simp) (AllReadyH.cons (o := { dst := some 40, op := _, type := _, pos := _, after := _, guard := _ }) rfl (fun K hK => ?_) AllReadyH.nil)
                  refine stepV rfl ?_
                  refine wp_appT _ _ rfl w1.heap.size _ (m.take j) ([c]) _ rfl HOW.out rfl (src_oneV HL6.out) (by have := HML.out; have := HMN.out; rw [List.length_take]; simp only [List.length_cons, List.length_nil]; omega) HBX.out.size ?_
                  intro v' w' hown' hgrow'
                  have hge := OwnV.ge HOW.out
                  have hbg := bgrown HBX.out hgrow' (fun k hk => (hge k hk).1)
                  refine hK.out _ _ (HRL.out _ hbg) (fun hHeld => ?_)
                  clear hK K
                  try simp only [Act.put, List.setIfInBounds_toArray, List.set_cons_zero, List.set_cons_succ]
                  replace HBX := Lib.hid hbg
                  clear HL6
                  have HOW := Lib.hid hown'
                  clear hown' hgrow' hbg hge
                  rename World => Wc
                  refine wpAnyH_ready (rs := [14]) (by kernel_rfl) (by simp) (AllReadyH.cons (o := { dst := some 44, op := _, type := _, pos := _, after := _, guard := _ }) rfl (fun K hK => ?_) AllReadyH.nil)
                  refine stepV rfl ?_
                  refine wp_appT _ _ rfl w1.heap.size _ (m.take j ++ [c]) (m.drop j) _ rfl HOW.out rfl (HSD.out _ HBX.out) (by have := HML.out; have := HMN.out; rw [List.length_append, List.length_take, List.length_drop]; simp only [List.length_cons, List.length_nil]; omega) HBX.out.size ?_
                  intro v' w' hown' hgrow'
                  have hge := OwnV.ge HOW.out
                  have hbg := bgrown HBX.out hgrow' (fun k hk => (hge k hk).1)
                  refine hK.out _ _ (HRL.out _ hbg) (fun hHeld => ?_)
                  clear hK K
                  try simp only [Act.put, List.setIfInBounds_toArray, List.set_cons_zero, List.set_cons_succ]
                  replace HBX := Lib.hid hbg
                  skip
                  have HOW := Lib.hid hown'
                  clear hown' hgrow' hbg hge
                  rename World => Wc
                  refine wpAnyH_take (i := 15) (oi := { dst := some 3, op := _, type := _, pos := _, after := _, guard := _ }) (v := ?v212) rfl (by kernel_rfl) (by kernel_rfl) (by kernel_rfl) (fun _ _ _ h => h) (Or.inl ⟨by rfl, ?y212⟩) (by assumption) ?r212
                  case y212 => (intro w hSw; go_simp; try with_reducible rfl)
                  try simp only [Act.put, List.setIfInBounds_toArray, List.set_cons_zero, List.set_cons_succ]
                  refine wpAnyH_done (by kernel_rfl) ?_ _
                  go_wp2_with fail
                  go_roundw
                  all_goals first | exact ⟨k + 1, by omega, by go_num, Lib.hid (by rw [HADD.out]; exact OwnV.mono (by simpa using HOW.out) HB1.out.size), Lib.hid (bstep HB1.out HBX.out)⟩ | (simp [intOf]; omega)
              · go_simp
                refine hK.out _ _ (HRL.out _ (bstep HBX.out (bbV Wc _))) (fun hHeld => ?_)
                clear hK K
                try simp only [Act.put, List.setIfInBounds_toArray, List.set_cons_zero, List.set_cons_succ]
                have HL6 := Lib.hid (ObjAt.made Wc #[.string (Str c)] 9)
                replace HBX := Lib.hid (bstep HBX.out (bbV Wc (.cells #[.string (Str c)] 9)))
                generalize World.alloc Wc (.cells _ _) = Wn at HBX HL6  hHeld ⊢
                generalize Wc.heap.size = m6 at HL6  ⊢
                rename World => Wc
                refine wpAnyH_ready (rs := [0]) (by kernel_rfl) (by simp) (AllReadyH.cons (o := { dst := some 30, op := _, type := _, pos := _, after := _, guard := _ }) rfl (fun K hK => ?_) AllReadyH.nil)
                go_simp
                refine hK.out _ _ (HRL.out _ (bstep HBX.out (bbV Wc _))) (fun hHeld => ?_)
                clear hK K
                try simp only [Act.put, List.setIfInBounds_toArray, List.set_cons_zero, List.set_cons_succ]
                have HOW := Lib.hid (show OwnV KS 9 (Wc.alloc (.cells #[] 9)) w1.heap.size (.slice (some ⟨Wc.heap.size, 0, none⟩) 0 0) ([] : List (List UInt8)) from World.ownsRow_lit Wc #[] 0 HBX.out.size (by unfold maxLen; omega) (by simp))
                have HM := Lib.hid (show m6 ≠ Wc.heap.size from by have := HL6.out.lt; omega)
                replace HBX := Lib.hid (bstep HBX.out (bbV Wc (.cells #[] 9)))
                replace HL6 := Lib.hid (HL6.out.below (bbV Wc (.cells #[] 9)) HL6.out.lt)
                generalize World.alloc Wc (.cells #[] _) = Wn at HBX HOW HL6 hHeld ⊢
                generalize Wc.heap.size = g0 at HOW HM ⊢
                rename World => Wc
                refine wpAnyH_ready (rs := [4]) (by kernel_rfl) (by simp) (AllReadyH.cons (o := { dst := some 34, op := _, type := _, pos := _, after := _, guard := _ }) rfl (fun K hK => ?_) AllReadyH.nil)
                refine stepV rfl ?_
                refine wp_appT _ _ rfl w1.heap.size _ ([]) (m.take j) _ rfl HOW.out rfl (HST.out _ HBX.out) (by have := HML.out; have := HMN.out; rw [List.length_take]; simp only [List.length_nil]; omega) HBX.out.size ?_
                intro v' w' hown' hgrow'
                have hge := OwnV.ge HOW.out
                have hbg := bgrown HBX.out hgrow' (fun k hk => (hge k hk).1)
                refine hK.out _ _ (HRL.out _ hbg) (fun hHeld => ?_)
                clear hK K
                try simp only [Act.put, List.setIfInBounds_toArray, List.set_cons_zero, List.set_cons_succ]
                replace HL6 := Lib.hid (HL6.out.grown hgrow' (fun e => HM.out (by have e2 : some m6 = some g0 := e; cases e2; rfl)))
                replace HBX := Lib.hid hbg
                rw [List.nil_append] at hown'
                have HOW := Lib.hid hown'
                clear hown' hgrow' hbg hge
                rename World => Wc
                refine wpAnyH_ready (rs := [10]) (by kernel_rfl) (by simp) (AllReadyH.cons (o := { dst := some 40, op := _, type := _, pos := _, after := _, guard := _ }) rfl (fun K hK => ?_) AllReadyH.nil)
                refine stepV rfl ?_
                refine wp_appT _ _ rfl w1.heap.size _ (m.take j) ([c]) _ rfl HOW.out rfl (src_oneV HL6.out) (by have := HML.out; have := HMN.out; rw [List.length_take]; simp only [List.length_cons, List.length_nil]; omega) HBX.out.size ?_
                intro v' w' hown' hgrow'
                have hge := OwnV.ge HOW.out
                have hbg := bgrown HBX.out hgrow' (fun k hk => (hge k hk).1)
                refine hK.out _ _ (HRL.out _ hbg) (fun hHeld => ?_)
                clear hK K
                try simp only [Act.put, List.setIfInBounds_toArray, List.set_cons_zero, List.set_cons_succ]
                replace HBX := Lib.hid hbg
                clear HL6
                have HOW := Lib.hid hown'
                clear hown' hgrow' hbg hge
                rename World => Wc
                refine wpAnyH_ready (rs := [14]) (by kernel_rfl) (by simp) (AllReadyH.cons (o := { dst := some 44, op := _, type := _, pos := _, after := _, guard := _ }) rfl (fun K hK => ?_) AllReadyH.nil)
                refine stepV rfl ?_
                refine wp_appT _ _ rfl w1.heap.size _ (m.take j ++ [c]) (m.drop j) _ rfl HOW.out rfl (HSD.out _ HBX.out) (by have := HML.out; have := HMN.out; rw [List.length_append, List.length_take, List.length_drop]; simp only [List.length_cons, List.length_nil]; omega) HBX.out.size ?_
                intro v' w' hown' hgrow'
                have hge := OwnV.ge HOW.out
                have hbg := bgrown HBX.out hgrow' (fun k hk => (hge k hk).1)
                refine hK.out _ _ (HRL.out _ hbg) (fun hHeld => ?_)
                clear hK K
                try simp only [Act.put, List.setIfInBounds_toArray, List.set_cons_zero, List.set_cons_succ]
                replace HBX := Lib.hid hbg
                skip
                have HOW := Lib.hid hown'
                clear hown' hgrow' hbg hge
                rename World => Wc
                refine wpAnyH_take (i := 15) (oi := { dst := some 3, op := _, type := _, pos := _, after := _, guard := _ }) (v := ?v213) rfl (by kernel_rfl) (by kernel_rfl) (by kernel_rfl) (fun _ _ _ h => h) (Or.inl ⟨by rfl, ?y213⟩) (by assumption) ?r213
                case y213 => (intro w hSw; go_simp; try with_reducible rfl)
                try simp only [Act.put, List.setIfInBounds_toArray, List.set_cons_zero, List.set_cons_succ]
                refine wpAnyH_done (by kernel_rfl) ?_ _
                go_wp2_with fail
                go_roundw
                all_goals first | exact ⟨k + 1, by omega, by go_num, Lib.hid (by rw [HADD.out]; exact OwnV.mono (by simpa using HOW.out) HB1.out.size), Lib.hid (bstep HB1.out HBX.out)⟩ | (simp [intOf]; omega)
          · have hj1 : ¬ (j : Int) < (nm : Int) := by omega
            have hjn : j = nm := by omega
            have HADD := Lib.hid (HAD.out j (by have := HMN.out; omega) HT.out (fun h => absurd h (by have := HMN.out; omega)))
            go_upto_region 6 with (fail)
            have hne : Nonempty (InS S) := ⟨⟨_, HS0.out⟩⟩
            refine wp_region_inS S (by kernel_rfl) (by kernel_rfl) HS0.out ?_
            repeat (go_big_quiet_step (fail))
            refine wpQuiet_nil ?_
            rintro _ ⟨⟨W2, hS2⟩, rfl⟩
            have HS2 := Lib.hid (HSE.out _ hS2)
            clear hS2 hne
            clear hjn
            have HBX := HS2
            have HST : Hid (∀ W, Below w1.heap.size w1 W → Src KS W (.slice (some ⟨g, 0, none⟩) j cap) (m.take j)) := Lib.hid fun W h => src_takeV (Kind.At.below RAX.out hgl h) (by have := HMN.out; omega)
            have HSD : Hid (∀ W, Below w1.heap.size w1 W → Src KS W (.slice (if cap = j then some ⟨g, 0, none⟩ else some ⟨g, j, none⟩) (nm - j) (cap - j)) (m.drop j)) := Lib.hid fun W h => by
              have := src_dropV (cap := cap) (c := cap - j) (Kind.At.below RAX.out hgl h) HMN.out hj HCAP.out.1
              rw [Nat.zero_add, show j * KS.n = j from Nat.mul_one j] at this
              exact this
            obtain ⟨q40, hif⟩ : ∃ q, (if cap = j then some (⟨g, 0, none⟩ : Addr) else some ⟨g, j, none⟩) = q := ⟨_, rfl⟩
            rw [hif] at HSD
            clear HS2 HS0 RA hgl
            rename World => Wc
            have hkc : j ≤ cap := by have := HCAP.out.1; omega
            have hnc : nm ≤ cap := HCAP.out.1
            go_upto_region 8 with (fail)
            refine wp_region_held_drew (S := (fun W => W.cell? ⟨b, o + k, none⟩ = some (.string (Str c)))) (by kernel_rfl) (HRL.out Wc.drew (bdrewN HBX.out 1)) (fun hHeld => ?_)
            have HBd := Lib.hid (bdrewN HBX.out 1)
            generalize hWd : World.drew Wc = Wd at hHeld ⊢
            replace HBX := Lib.hid (show Below w1.heap.size w1 Wd from hWd ▸ HBd.out)
            clear HBd hWd
            rename World => Wc
            refine wpAnyH_take (i := 1) (oi := { dst := some 31, op := _, type := _, pos := _, after := _, guard := _ }) (v := ?v301) rfl (by kernel_rfl) (by kernel_rfl) (by kernel_rfl) (fun _ _ _ h => h) (Or.inl ⟨by rfl, ?y301⟩) (by assumption) ?r301
            case y301 => (intro w hSw; go_simp; try with_reducible rfl)
            try simp only [Act.put, List.setIfInBounds_toArray, List.set_cons_zero, List.set_cons_succ]
            refine wpAnyH_take (i := 2) (oi := { dst := some 32, op := _, type := _, pos := _, after := _, guard := _ }) (v := ?v302) rfl (by kernel_rfl) (by kernel_rfl) (by kernel_rfl) (fun _ _ _ h => h) (Or.inl ⟨by rfl, ?y302⟩) (by assumption) ?r302
            case y302 => (intro w hSw; go_simp; try with_reducible rfl)
            try simp only [Act.put, List.setIfInBounds_toArray, List.set_cons_zero, List.set_cons_succ]
            refine wpAnyH_take (i := 3) (oi := { dst := some 33, op := _, type := _, pos := _, after := _, guard := _ }) (v := ?v303) rfl (by kernel_rfl) (by kernel_rfl) (by kernel_rfl) (fun _ _ _ h => h) (Or.inl ⟨by rfl, ?y303⟩) (by assumption) ?r303
            case y303 => (intro w hSw; go_simp; try with_reducible rfl)
            try simp only [Act.put, List.setIfInBounds_toArray, List.set_cons_zero, List.set_cons_succ]
            refine wpAnyH_take (i := 5) (oi := { dst := some 35, op := _, type := _, pos := _, after := _, guard := _ }) (v := ?v304) rfl (by kernel_rfl) (by kernel_rfl) (by kernel_rfl) (fun _ _ _ h => h) (Or.inl ⟨by rfl, ?y304⟩) (by assumption) ?r304
            case y304 => (intro w hSw; go_simp; try with_reducible rfl)
            try simp only [Act.put, List.setIfInBounds_toArray, List.set_cons_zero, List.set_cons_succ]
            refine wpAnyH_take (i := 6) (oi := { dst := some 36, op := _, type := _, pos := _, after := _, guard := _ }) (v := ?v305) rfl (by kernel_rfl) (by kernel_rfl) (by kernel_rfl) (fun _ _ _ h => h) (Or.inl ⟨by rfl, ?y305⟩) (by assumption) ?r305
            case y305 => (intro w hSw; go_simp; try with_reducible rfl)
            try simp only [Act.put, List.setIfInBounds_toArray, List.set_cons_zero, List.set_cons_succ]
            refine wpAnyH_take (i := 7) (oi := { dst := some 37, op := _, type := _, pos := _, after := _, guard := _ }) (v := ?v306) rfl (by kernel_rfl) (by kernel_rfl) (by kernel_rfl) (fun _ _ _ h => h) (Or.inl ⟨by rfl, ?y306⟩) (by assumption) ?r306
            case y306 => (intro w hSw; go_simp; try with_reducible rfl)
            try simp only [Act.put, List.setIfInBounds_toArray, List.set_cons_zero, List.set_cons_succ]
            refine wpAnyH_take (i := 8) (oi := { dst := some 38, op := _, type := _, pos := _, after := _, guard := _ }) (v := ?v307) rfl (by kernel_rfl) (by kernel_rfl) (by kernel_rfl) (fun _ _ _ h => h) (Or.inl ⟨by rfl, ?y307⟩) (by assumption) ?r307
            case y307 => (intro w hSw; go_simp; try with_reducible rfl)
            try simp only [Act.put, List.setIfInBounds_toArray, List.set_cons_zero, List.set_cons_succ]
            refine wpAnyH_take (i := 11) (oi := { dst := some 41, op := _, type := _, pos := _, after := _, guard := _ }) (v := ?v308) rfl (by kernel_rfl) (by kernel_rfl) (by kernel_rfl) (fun _ _ _ h => h) (Or.inl ⟨by rfl, ?y308⟩) (by assumption) ?r308
            case y308 => (intro w hSw; go_simp; try with_reducible rfl)
            try simp only [Act.put, List.setIfInBounds_toArray, List.set_cons_zero, List.set_cons_succ]
            refine wpAnyH_take (i := 12) (oi := { dst := some 42, op := _, type := _, pos := _, after := _, guard := _ }) (v := ?v309) rfl (by kernel_rfl) (by kernel_rfl) (by kernel_rfl) (fun _ _ _ h => h) (Or.inl ⟨by rfl, ?y309⟩) (by assumption) ?r309
            case y309 => (intro w hSw; go_simp; try with_reducible rfl)
            try simp only [Act.put, List.setIfInBounds_toArray, List.set_cons_zero, List.set_cons_succ]
            refine wpAnyH_take (i := 13) (oi := { dst := some 43, op := _, type := _, pos := _, after := _, guard := _ }) (v := ?v310) rfl (by kernel_rfl) (by kernel_rfl) (by kernel_rfl) (fun _ _ _ h => h) (Or.inl ⟨by rfl, ?y310⟩) (by assumption) ?r310
            case y310 => (intro w hSw; go_simp; try with_reducible rfl)
            try simp only [Act.put, List.setIfInBounds_toArray, List.set_cons_zero, List.set_cons_succ]
            refine wpAnyH_ready (rs := [0, 9]) (by kernel_rfl) (by simp) (AllReadyH.cons (o := { dst := some 30, op := _, type := _, pos := _, after := _, guard := _ }) rfl (fun K hK => ?_) (AllReadyH.cons (o := { dst := some 39, op := _, type := _, pos := _, after := _, guard := _ }) rfl (fun K hK => ?_) AllReadyH.nil))
            · go_simp
              refine hK.out _ _ (HRL.out _ (bstep HBX.out (bbV Wc _))) (fun hHeld => ?_)
              clear hK K
              try simp only [Act.put, List.setIfInBounds_toArray, List.set_cons_zero, List.set_cons_succ]
              have HOW := Lib.hid (show OwnV KS 9 (Wc.alloc (.cells #[] 9)) w1.heap.size (.slice (some ⟨Wc.heap.size, 0, none⟩) 0 0) ([] : List (List UInt8)) from World.ownsRow_lit Wc #[] 0 HBX.out.size (by unfold maxLen; omega) (by simp))
              replace HBX := Lib.hid (bstep HBX.out (bbV Wc (.cells #[] 9)))
              generalize World.alloc Wc (.cells #[] _) = Wn at HBX HOW  hHeld ⊢
              generalize Wc.heap.size = g0 at HOW  ⊢
              rename World => Wc
              refine wpAnyH_ready (rs := [4, 9]) (by kernel_rfl) (by simp) (AllReadyH.cons (o := { dst := some 34, op := _, type := _, pos := _, after := _, guard := _ }) rfl (fun K hK => ?_) (AllReadyH.cons (o := { dst := some 39, op := _, type := _, pos := _, after := _, guard := _ }) rfl (fun K hK => ?_) AllReadyH.nil))
              · refine stepV rfl ?_
                refine wp_appT _ _ rfl w1.heap.size _ ([]) (m.take j) _ rfl HOW.out rfl (HST.out _ HBX.out) (by have := HML.out; have := HMN.out; rw [List.length_take]; simp only [List.length_nil]; omega) HBX.out.size ?_
                intro v' w' hown' hgrow'
                have hge := OwnV.ge HOW.out
                have hbg := bgrown HBX.out hgrow' (fun k hk => (hge k hk).1)
                refine hK.out _ _ (HRL.out _ hbg) (fun hHeld => ?_)
                clear hK K
                try simp only [Act.put, List.setIfInBounds_toArray, List.set_cons_zero, List.set_cons_succ]
                replace HBX := Lib.hid hbg
                rw [List.nil_append] at hown'
                have HOW := Lib.hid hown'
                clear hown' hgrow' hbg hge
                rename World => Wc
                refine wpAnyH_ready (rs := [9]) (by kernel_rfl) (by simp) (AllReadyH.cons (o := { dst := some 39, op := _, type := _, pos := _, after := _, guard := _ }) rfl (fun K hK => ?_) AllReadyH.nil)
                go_simp
                refine hK.out _ _ (HRL.out _ (bstep HBX.out (bbV Wc _))) (fun hHeld => ?_)
                clear hK K
                try simp only [Act.put, List.setIfInBounds_toArray, List.set_cons_zero, List.set_cons_succ]
                have HL6 := Lib.hid (ObjAt.made Wc #[.string (Str c)] 9)
                replace HBX := Lib.hid (bstep HBX.out (bbV Wc (.cells #[.string (Str c)] 9)))
                replace HOW := Lib.hid (OwnV.below HOW.out (bbV Wc (.cells #[.string (Str c)] 9)))
                generalize World.alloc Wc (.cells _ _) = Wn at HBX HL6 HOW hHeld ⊢
                generalize Wc.heap.size = m6 at HL6  ⊢
                rename World => Wc
                refine wpAnyH_ready (rs := [10]) (by kernel_rfl) (by simp) (AllReadyH.cons (o := { dst := some 40, op := _, type := _, pos := _, after := _, guard := _ }) rfl (fun K hK => ?_) AllReadyH.nil)
                refine stepV rfl ?_
                refine wp_appT _ _ rfl w1.heap.size _ (m.take j) ([c]) _ rfl HOW.out rfl (src_oneV HL6.out) (by have := HML.out; have := HMN.out; rw [List.length_take]; simp only [List.length_cons, List.length_nil]; omega) HBX.out.size ?_
                intro v' w' hown' hgrow'
                have hge := OwnV.ge HOW.out
                have hbg := bgrown HBX.out hgrow' (fun k hk => (hge k hk).1)
                refine hK.out _ _ (HRL.out _ hbg) (fun hHeld => ?_)
                clear hK K
                try simp only [Act.put, List.setIfInBounds_toArray, List.set_cons_zero, List.set_cons_succ]
                replace HBX := Lib.hid hbg
                clear HL6
                have HOW := Lib.hid hown'
                clear hown' hgrow' hbg hge
                rename World => Wc
                refine wpAnyH_ready (rs := [14]) (by kernel_rfl) (by simp) (AllReadyH.cons (o := { dst := some 44, op := _, type := _, pos := _, after := _, guard := _ }) rfl (fun K hK => ?_) AllReadyH.nil)
                refine stepV rfl ?_
                refine wp_appT _ _ rfl w1.heap.size _ (m.take j ++ [c]) (m.drop j) _ rfl HOW.out rfl (HSD.out _ HBX.out) (by have := HML.out; have := HMN.out; rw [List.length_append, List.length_take, List.length_drop]; simp only [List.length_cons, List.length_nil]; omega) HBX.out.size ?_
                intro v' w' hown' hgrow'
                have hge := OwnV.ge HOW.out
                have hbg := bgrown HBX.out hgrow' (fun k hk => (hge k hk).1)
                refine hK.out _ _ (HRL.out _ hbg) (fun hHeld => ?_)
                clear hK K
                try simp only [Act.put, List.setIfInBounds_toArray, List.set_cons_zero, List.set_cons_succ]
                replace HBX := Lib.hid hbg
                skip
                have HOW := Lib.hid hown'
                clear hown' hgrow' hbg hge
                rename World => Wc
                refine wpAnyH_take (i := 15) (oi := { dst := some 3, op := _, type := _, pos := _, after := _, guard := _ }) (v := ?v311) rfl (by kernel_rfl) (by kernel_rfl) (by kernel_rfl) (fun _ _ _ h => h) (Or.inl ⟨by rfl, ?y311⟩) (by assumption) ?r311
                case y311 => (intro w hSw; go_simp; try with_reducible rfl)
                try simp only [Act.put, List.setIfInBounds_toArray, List.set_cons_zero, List.set_cons_succ]
                refine wpAnyH_done (by kernel_rfl) ?_ _
                go_wp2_with fail
                go_roundw
                all_goals first | exact ⟨k + 1, by omega, by go_num, Lib.hid (by rw [HADD.out]; exact OwnV.mono (by simpa using HOW.out) HB1.out.size), Lib.hid (bstep HB1.out HBX.out)⟩ | (simp [intOf]; omega)
              · go_simp
                refine hK.out _ _ (HRL.out _ (bstep HBX.out (bbV Wc _))) (fun hHeld => ?_)
                clear hK K
                try simp only [Act.put, List.setIfInBounds_toArray, List.set_cons_zero, List.set_cons_succ]
                have HL6 := Lib.hid (ObjAt.made Wc #[.string (Str c)] 9)
                have HM := Lib.hid (show Wc.heap.size ≠ g0 from by have := (OwnV.ge HOW.out g0 rfl).2; omega)
                replace HBX := Lib.hid (bstep HBX.out (bbV Wc (.cells #[.string (Str c)] 9)))
                replace HOW := Lib.hid (OwnV.below HOW.out (bbV Wc (.cells #[.string (Str c)] 9)))
                generalize World.alloc Wc (.cells _ _) = Wn at HBX HL6 HOW hHeld ⊢
                generalize Wc.heap.size = m6 at HL6 HM ⊢
                rename World => Wc
                refine wpAnyH_ready (rs := [4]) (by kernel_rfl) (by simp) (AllReadyH.cons (o := { dst := some 34, op := _, type := _, pos := _, after := _, guard := _ }) rfl (fun K hK => ?_) AllReadyH.nil)
                refine stepV rfl ?_
                refine wp_appT _ _ rfl w1.heap.size _ ([]) (m.take j) _ rfl HOW.out rfl (HST.out _ HBX.out) (by have := HML.out; have := HMN.out; rw [List.length_take]; simp only [List.length_nil]; omega) HBX.out.size ?_
                intro v' w' hown' hgrow'
                have hge := OwnV.ge HOW.out
                have hbg := bgrown HBX.out hgrow' (fun k hk => (hge k hk).1)
                refine hK.out _ _ (HRL.out _ hbg) (fun hHeld => ?_)
                clear hK K
                try simp only [Act.put, List.setIfInBounds_toArray, List.set_cons_zero, List.set_cons_succ]
                replace HL6 := Lib.hid (HL6.out.grown hgrow' (fun e => HM.out (by have e2 : some m6 = some g0 := e; cases e2; rfl)))
                replace HBX := Lib.hid hbg
                rw [List.nil_append] at hown'
                have HOW := Lib.hid hown'
                clear hown' hgrow' hbg hge
                rename World => Wc
                refine wpAnyH_ready (rs := [10]) (by kernel_rfl) (by simp) (AllReadyH.cons (o := { dst := some 40, op := _, type := _, pos := _, after := _, guard := _ }) rfl (fun K hK => ?_) AllReadyH.nil)
                refine stepV rfl ?_
                refine wp_appT _ _ rfl w1.heap.size _ (m.take j) ([c]) _ rfl HOW.out rfl (src_oneV HL6.out) (by have := HML.out; have := HMN.out; rw [List.length_take]; simp only [List.length_cons, List.length_nil]; omega) HBX.out.size ?_
                intro v' w' hown' hgrow'
                have hge := OwnV.ge HOW.out
                have hbg := bgrown HBX.out hgrow' (fun k hk => (hge k hk).1)
                refine hK.out _ _ (HRL.out _ hbg) (fun hHeld => ?_)
                clear hK K
                try simp only [Act.put, List.setIfInBounds_toArray, List.set_cons_zero, List.set_cons_succ]
                replace HBX := Lib.hid hbg
                clear HL6
                have HOW := Lib.hid hown'
                clear hown' hgrow' hbg hge
                rename World => Wc
                refine wpAnyH_ready (rs := [14]) (by kernel_rfl) (by simp) (AllReadyH.cons (o := { dst := some 44, op := _, type := _, pos := _, after := _, guard := _ }) rfl (fun K hK => ?_) AllReadyH.nil)
                refine stepV rfl ?_
                refine wp_appT _ _ rfl w1.heap.size _ (m.take j ++ [c]) (m.drop j) _ rfl HOW.out rfl (HSD.out _ HBX.out) (by have := HML.out; have := HMN.out; rw [List.length_append, List.length_take, List.length_drop]; simp only [List.length_cons, List.length_nil]; omega) HBX.out.size ?_
                intro v' w' hown' hgrow'
                have hge := OwnV.ge HOW.out
                have hbg := bgrown HBX.out hgrow' (fun k hk => (hge k hk).1)
                refine hK.out _ _ (HRL.out _ hbg) (fun hHeld => ?_)
                clear hK K
                try simp only [Act.put, List.setIfInBounds_toArray, List.set_cons_zero, List.set_cons_succ]
                replace HBX := Lib.hid hbg
                skip
                have HOW := Lib.hid hown'
                clear hown' hgrow' hbg hge
                rename World => Wc
                refine wpAnyH_take (i := 15) (oi := { dst := some 3, op := _, type := _, pos := _, after := _, guard := _ }) (v := ?v312) rfl (by kernel_rfl) (by kernel_rfl) (by kernel_rfl) (fun _ _ _ h => h) (Or.inl ⟨by rfl, ?y312⟩) (by assumption) ?r312
                case y312 => (intro w hSw; go_simp; try with_reducible rfl)
                try simp only [Act.put, List.setIfInBounds_toArray, List.set_cons_zero, List.set_cons_succ]
                refine wpAnyH_done (by kernel_rfl) ?_ _
                go_wp2_with fail
                go_roundw
                all_goals first | exact ⟨k + 1, by omega, by go_num, Lib.hid (by rw [HADD.out]; exact OwnV.mono (by simpa using HOW.out) HB1.out.size), Lib.hid (bstep HB1.out HBX.out)⟩ | (simp [intOf]; omega)
            · go_simp
              refine hK.out _ _ (HRL.out _ (bstep HBX.out (bbV Wc _))) (fun hHeld => ?_)
              clear hK K
              try simp only [Act.put, List.setIfInBounds_toArray, List.set_cons_zero, List.set_cons_succ]
              have HL6 := Lib.hid (ObjAt.made Wc #[.string (Str c)] 9)
              replace HBX := Lib.hid (bstep HBX.out (bbV Wc (.cells #[.string (Str c)] 9)))
              generalize World.alloc Wc (.cells _ _) = Wn at HBX HL6  hHeld ⊢
              generalize Wc.heap.size = m6 at HL6  ⊢
              rename World => Wc
              refine wpAnyH_ready (rs := [0]) (by kernel_rfl) (by simp) (AllReadyH.cons (o := { dst := some 30, op := _, type := _, pos := _, after := _, guard := _ }) rfl (fun K hK => ?_) AllReadyH.nil)
              go_simp
              refine hK.out _ _ (HRL.out _ (bstep HBX.out (bbV Wc _))) (fun hHeld => ?_)
              clear hK K
              try simp only [Act.put, List.setIfInBounds_toArray, List.set_cons_zero, List.set_cons_succ]
              have HOW := Lib.hid (show OwnV KS 9 (Wc.alloc (.cells #[] 9)) w1.heap.size (.slice (some ⟨Wc.heap.size, 0, none⟩) 0 0) ([] : List (List UInt8)) from World.ownsRow_lit Wc #[] 0 HBX.out.size (by unfold maxLen; omega) (by simp))
              have HM := Lib.hid (show m6 ≠ Wc.heap.size from by have := HL6.out.lt; omega)
              replace HBX := Lib.hid (bstep HBX.out (bbV Wc (.cells #[] 9)))
              replace HL6 := Lib.hid (HL6.out.below (bbV Wc (.cells #[] 9)) HL6.out.lt)
              generalize World.alloc Wc (.cells #[] _) = Wn at HBX HOW HL6 hHeld ⊢
              generalize Wc.heap.size = g0 at HOW HM ⊢
              rename World => Wc
              refine wpAnyH_ready (rs := [4]) (by kernel_rfl) (by simp) (AllReadyH.cons (o := { dst := some 34, op := _, type := _, pos := _, after := _, guard := _ }) rfl (fun K hK => ?_) AllReadyH.nil)
              refine stepV rfl ?_
              refine wp_appT _ _ rfl w1.heap.size _ ([]) (m.take j) _ rfl HOW.out rfl (HST.out _ HBX.out) (by have := HML.out; have := HMN.out; rw [List.length_take]; simp only [List.length_nil]; omega) HBX.out.size ?_
              intro v' w' hown' hgrow'
              have hge := OwnV.ge HOW.out
              have hbg := bgrown HBX.out hgrow' (fun k hk => (hge k hk).1)
              refine hK.out _ _ (HRL.out _ hbg) (fun hHeld => ?_)
              clear hK K
              try simp only [Act.put, List.setIfInBounds_toArray, List.set_cons_zero, List.set_cons_succ]
              replace HL6 := Lib.hid (HL6.out.grown hgrow' (fun e => HM.out (by have e2 : some m6 = some g0 := e; cases e2; rfl)))
              replace HBX := Lib.hid hbg
              rw [List.nil_append] at hown'
              have HOW := Lib.hid hown'
              clear hown' hgrow' hbg hge
              rename World => Wc
              refine wpAnyH_ready (rs := [10]) (by kernel_rfl) (by simp) (AllReadyH.cons (o := { dst := some 40, op := _, type := _, pos := _, after := _, guard := _ }) rfl (fun K hK => ?_) AllReadyH.nil)
              refine stepV rfl ?_
              refine wp_appT _ _ rfl w1.heap.size _ (m.take j) ([c]) _ rfl HOW.out rfl (src_oneV HL6.out) (by have := HML.out; have := HMN.out; rw [List.length_take]; simp only [List.length_cons, List.length_nil]; omega) HBX.out.size ?_
              intro v' w' hown' hgrow'
              have hge := OwnV.ge HOW.out
              have hbg := bgrown HBX.out hgrow' (fun k hk => (hge k hk).1)
              refine hK.out _ _ (HRL.out _ hbg) (fun hHeld => ?_)
              clear hK K
              try simp only [Act.put, List.setIfInBounds_toArray, List.set_cons_zero, List.set_cons_succ]
              replace HBX := Lib.hid hbg
              clear HL6
              have HOW := Lib.hid hown'
              clear hown' hgrow' hbg hge
              rename World => Wc
              refine wpAnyH_ready (rs := [14]) (by kernel_rfl) (by simp) (AllReadyH.cons (o := { dst := some 44, op := _, type := _, pos := _, after := _, guard := _ }) rfl (fun K hK => ?_) AllReadyH.nil)
              refine stepV rfl ?_
              refine wp_appT _ _ rfl w1.heap.size _ (m.take j ++ [c]) (m.drop j) _ rfl HOW.out rfl (HSD.out _ HBX.out) (by have := HML.out; have := HMN.out; rw [List.length_append, List.length_take, List.length_drop]; simp only [List.length_cons, List.length_nil]; omega) HBX.out.size ?_
              intro v' w' hown' hgrow'
              have hge := OwnV.ge HOW.out
              have hbg := bgrown HBX.out hgrow' (fun k hk => (hge k hk).1)
              refine hK.out _ _ (HRL.out _ hbg) (fun hHeld => ?_)
              clear hK K
              try simp only [Act.put, List.setIfInBounds_toArray, List.set_cons_zero, List.set_cons_succ]
              replace HBX := Lib.hid hbg
              skip
              have HOW := Lib.hid hown'
              clear hown' hgrow' hbg hge
              rename World => Wc
              refine wpAnyH_take (i := 15) (oi := { dst := some 3, op := _, type := _, pos := _, after := _, guard := _ }) (v := ?v313) rfl (by kernel_rfl) (by kernel_rfl) (by kernel_rfl) (fun _ _ _ h => h) (Or.inl ⟨by rfl, ?y313⟩) (by assumption) ?r313
              case y313 => (intro w hSw; go_simp; try with_reducible rfl)
              try simp only [Act.put, List.setIfInBounds_toArray, List.set_cons_zero, List.set_cons_succ]
              refine wpAnyH_done (by kernel_rfl) ?_ _
              go_wp2_with fail
              go_roundw
              all_goals first | exact ⟨k + 1, by omega, by go_num, Lib.hid (by rw [HADD.out]; exact OwnV.mono (by simpa using HOW.out) HB1.out.size), Lib.hid (bstep HB1.out HBX.out)⟩ | (simp [intOf]; omega)
    · have hk1 : ¬ (k : Int) < (n : Int) := by omega
      have hkn : k = n := by omega
      have HE : Hid (sortK (l.take k) = sortK l) := Lib.hid (by rw [hkn, HN.out, List.take_length])
      go_wp2
      go_ret
      exact ⟨_, rfl, HB1.out, by have := HO1.out; rwa [HE.out] at this⟩
end Go.Proofs.Ytiegeejbnplhdaa
