/-
  The document's answers of layer 12: Set.
-/
import Derived.Test.YtiegeejbnplhdaaCkC
import Derived.Test.YtiegeejbnplhdaaSeQ
namespace Go.Proofs.Ytiegeejbnplhdaa
open Go.RowKit
set_option linter.unusedVariables false
set_option linter.unusedSimpArgs false

theorem take_while_ofE {l : List EN} {k : Nat} {a : EN} (hk : k ≤ l.length) (h1 : ∀ x ∈ l.take k, ltE x a = true) (h2 : ∀ (h : k < l.length), ltE l[k] a = false) : l.takeWhile (ltE · a) = l.take k ∧ l.dropWhile (ltE · a) = l.drop k := by
  induction l generalizing k with
  | nil => simp at hk; subst hk; simp
  | cons b r ih =>
    cases k with
    | zero =>
      have := h2 (by simp)
      simp only [List.getElem_cons_zero] at this
      simp [this]
    | succ k =>
      have hb := h1 b (by simp)
      obtain ⟨e1, e2⟩ := ih (k := k) (by simpa using hk) (fun x hx => h1 x (by simp [hx])) (fun h => by have := h2 (by simpa using h); simpa using this)
      simp [hb, e1, e2]
theorem take_lt_succ {l : List EN} {a : EN} {i : Nat} (hi : i < l.length) (h : ∀ x ∈ l.take i, ltE x a = true) (hn : ltE l[i] a = true) : ∀ x ∈ l.take (i + 1), ltE x a = true := by
  intro x hx
  rw [List.take_succ_eq_append_getElem hi, List.mem_append, List.mem_singleton] at hx
  rcases hx with hx | rfl
  · exact h x hx
  · exact hn
theorem setE_at {l : List EN} {key : List UInt8} {t : Int} {k : Nat} (hk : k ≤ (cutE l key).length) (h1 : ∀ x ∈ (cutE l key).take k, ltE x (key, t) = true) (h2 : ∀ (h : k < (cutE l key).length), ltE (cutE l key)[k] (key, t) = false) : setE l key t = (cutE l key).take k ++ (key, t) :: (cutE l key).drop k := by
  obtain ⟨e1, e2⟩ := take_while_ofE hk h1 h2
  unfold setE insS
  rw [e1, e2]
theorem stepV {ops : Array Oper} {o : Oper} {a : Act} {w : World} {K : Act → World → Prop} {Q : Exit → Act → World → Prop} {E : Prop} (hg : o.guard = none) (h : Oper.wp Try.prog o a w K Q) : if Region.wanted o (yielded ops a.tmps) = true then Oper.wp Try.prog o a w K Q else E := by
  rw [if_pos (by simp [Region.wanted, hg])]; exact h
theorem wp_appE {w : World} {o : Oper} {a : Act} {K : Act → World → Prop} {Q : Exit → Act → World → Prop} (s x : Operand) (ho : o.op = .call { callee := .builtin .append, args := #[s, x], argTypes := #[25, 25] })
    (base : Nat) (v : Value) (ys zs : List EN) (sv : Value) (hs : a.eval s = v) (hown : OwnV KE 53 w base v ys) (hx : a.eval x = sv) (hz : Src KE w sv zs) (hn : ys.length + zs.length ≤ 1000000000) (hbase : base ≤ w.heap.size)
    (h : ∀ v' w', OwnV KE 53 w' base v' (ys ++ zs) → w.grownBy w' v.ownBlock → K (a.put o.dst v') w') : o.wp Try.prog a w K Q := by
  obtain ⟨i0, hi0, hz0, hz1, hz2⟩ := info_partsV info_en
  exact wp_appV Try.underlying25 hi0 hz0 hz1 hz2 rfl (by omega) s x ho base v ys zs sv hs hown hx hz hn hbase h
theorem box_putE (w : World) (x : EN) : ObjAt (aggW (w.alloc (.cells #[.string ⟨#[]⟩, .int .i64 0] 53)) w.heap.size (enC x)) w.heap.size (enC x).toArray 53 ∧ Below w.heap.size w (aggW (w.alloc (.cells #[.string ⟨#[]⟩, .int .i64 0] 53)) w.heap.size (enC x)) :=
  ⟨aggW_obj (L := [.string ⟨#[]⟩, .int .i64 0]) (ObjAt.made w _ _) rfl (KE.one x), aggW_below (bbV w _) (Nat.le_refl _) _⟩
theorem fok_en (x : EN) : fok (enC x).toArray 2 = true := by
  have h1 : (enC x).toArray.all (·.oneCell') = true := all_oneCell_toArray (KE.one x)
  simp only [fok, h1, Bool.and_true]
  rfl
theorem st_en (a : Addr) (v : Value) : storeVar 53 a v = aggSt 53 a v := rfl
theorem str_en (b : Nat) (cs : Array Value) (w : World) : (aggSt 53 ⟨b, 0, none⟩ (.agg cs)).run Try.prog w = match free? w b 0 2 && fok cs 2 with | true => .ok () (aggW w b cs.toList) | false => aggStSlow 53 b 0 (.agg cs) w :=
  st_run (by kernel_rfl) b cs w
attribute [local go_sem ↓] st_en
attribute [local go_sem] str_en

theorem own_atV {α : Type} {K : Kind α} {T : TypeId} {w : World} {base cap : Nat} {p : Option Addr} {l : List α} (h : OwnV K T w base (.slice p l.length cap) l) : (p = none ∧ cap = 0 ∧ l = []) ∨ ∃ g, p = some ⟨g, 0, none⟩ ∧ g < w.heap.size ∧ K.At w g 0 l := by
  have ha := OwnV.vec h
  obtain ⟨h1, ⟨h2, h3⟩ | ⟨g, c, cur, e1, e2, e3, e4⟩⟩ := h
  · simp only [Value.slice.injEq] at h2
    exact Or.inl ⟨h2.1, h2.2.2, List.eq_nil_of_length_eq_zero h2.2.1⟩
  · simp only [Value.slice.injEq] at e1
    refine Or.inr ⟨g, e1.1, (Array.getElem?_eq_some_iff.1 e3).1, ?_⟩
    by_cases hl : l = []
    · subst hl; intro i hi; simp at hi
    · obtain ⟨b, o, c', e, _, _, _, hA⟩ := ha.parts hl
      simp only [Value.slice.injEq] at e
      rw [e1.1] at e
      obtain ⟨e, _, _⟩ := e
      cases e
      exact hA

set_option maxRecDepth 100000 in
set_option maxHeartbeats 4000000 in
theorem set12_any (v : Value) (l : List EN) (key : List UInt8) (t : Int) (w : World) (ha : Vec KE w v l) (hll : l.length ≤ 100000) : Calls Try.prog 11 #[v, .string (Str key), .int .i64 t] w fun x w' => ∃ v', x = .returned v' ∧ Below w.heap.size w w' ∧ OwnV KE 53 w' w.heap.size v' (setE l key t) := by
  have HC := Lib.hid (cut12_any v l key w ha hll)
  have hle2 : 2 ≤ (#[.string ⟨#[]⟩, .int .i64 0] : Array Value).size := by decide
  have hfok : fok #[.string (Str key), .int .i64 t] 2 = true := fok_en (key, t)
  have HLL : Hid ((cutE l key).length ≤ 100000) := Lib.hid (Nat.le_trans (List.length_filter_le _ _) hll)
  have HAD := Lib.hid (fun k => setE_at (l := l) (key := key) (t := t) (k := k))
  go_enter Try.func11, Try.ntmps11
  go_upto_region 2 with (go_at_call 13; (with_reducible refine HC.out.mono ?_); rintro x w1 ⟨v1, rfl, hb1, ho1⟩; have HB1 := Lib.hid hb1; have HO1 := Lib.hid ho1; have hfm := free_made w1 #[.string ⟨#[]⟩, .int .i64 0] 53 2 hle2; clear hb1 ho1)
  clear HC
  generalize cutE l key = m at HLL HAD HO1
  obtain ⟨q1, q2⟩ := box_putE w1 (key, t)
  obtain ⟨W, hW⟩ : ∃ W, W = aggW (w1.alloc (.cells #[.string ⟨#[]⟩, .int .i64 0] 53)) w1.heap.size [.string (Str key), .int .i64 t] := ⟨_, rfl⟩
  rw [← hW]
  have HX : Hid (ObjAt W w1.heap.size #[.string (Str key), .int .i64 t] 53) := Lib.hid (by rw [hW]; exact q1)
  have HBX : Hid (Below w1.heap.size w1 W) := Lib.hid (by rw [hW]; exact q2)
  clear q1 q2 hW hfm
  obtain ⟨p, cap, rfl, h1, h2, _⟩ := (OwnV.vec HO1.out).len
  obtain ⟨X, hX⟩ : ∃ X, X = w1.heap.size := ⟨_, rfl⟩
  have HXE := Lib.hid hX
  rw [← hX]
  rw [← hX] at HX
  obtain ⟨n, hn⟩ : ∃ n, n = m.length := ⟨_, rfl⟩
  have HN := Lib.hid hn
  have hmx : n ≤ 100000 := by rw [hn]; exact HLL.out
  have HCAP : Hid (n ≤ cap ∧ cap ≤ maxLen) := Lib.hid ⟨by omega, h2⟩
  have HRO : Hid (∀ W, ObjAt W X #[.string (Str key), .int .i64 t] 53 → W.cell? ⟨X, 0, none⟩ = some (.string (Str key)) ∧ W.cell? ⟨X, 1, none⟩ = some (.int .i64 t)) := Lib.hid fun W h => ⟨h.cell 0, h.cell 1⟩
  obtain ⟨S, hS⟩ : ∃ S : World → Prop, S = fun W => ObjAt W X #[.string (Str key), .int .i64 t] 53 ∧ Below w1.heap.size w1 W := ⟨_, rfl⟩
  have HSE : Hid (∀ W, S W → ObjAt W X #[.string (Str key), .int .i64 t] 53 ∧ Below w1.heap.size w1 W) := Lib.hid (by subst hS; exact fun W h => h)
  have HSI : Hid (∀ W, ObjAt W X #[.string (Str key), .int .i64 t] 53 → Below w1.heap.size w1 W → S W) := Lib.hid (by subst hS; exact fun W h h' => ⟨h, h'⟩)
  have HKP : Hid (∀ W W', S W → Below W.heap.size W W' → S W') := Lib.hid (by subst hS; exact fun W W' h hb => ⟨h.1.below hb h.1.lt, bstep h.2 hb⟩)
  have HR3 : Hid (∀ p : InS S, p.W.cell? ⟨X, 0, none⟩ = some (.string (Str key))) := Lib.hid fun p => (HRO.out _ (HSE.out _ p.h).1).1
  have HR4 : Hid (∀ p : InS S, p.W.cell? ⟨X, 1, none⟩ = some (.int .i64 t)) := Lib.hid fun p => (HRO.out _ (HSE.out _ p.h).1).2
  clear hS hX h1 h2
  rcases own_atV HO1.out with ⟨hp0, hc0, hl0⟩ | ⟨g, hp0, hgl, RA⟩
  · subst hp0
    obtain rfl : cap = 0 := hc0
    have hn0 : n = 0 := by rw [hn, hl0]; rfl
    rw [← hn]
    clear hn
    subst hn0
    go_wp2_with fail
    go_loopw [8] (fun i wr => i = .int .i64 0 ∧ Hid (ObjAt wr X #[.string (Str key), .int .i64 t] 53) ∧ Hid (Below w1.heap.size w1 wr)) (fun i _ => 0)
    case atStart => exact ⟨rfl, HX, HBX⟩
    case round =>
      obtain ⟨rfl, HX, HBX⟩ := hrel
      have HS0 := Lib.hid (HSI.out wr.drew HX.out (bdrewN HBX.out 1))
      go_upto_region 2 with (fail)
      have hne : Nonempty (InS S) := ⟨⟨_, HS0.out⟩⟩
      refine wp_region_inS S (by kernel_rfl) (by kernel_rfl) HS0.out ?_
      repeat (go_big_quiet_step (fail))
      refine wpQuiet_nil ?_
      rintro _ ⟨⟨W2, hS2⟩, rfl⟩
      have HS2 := Lib.hid (HSE.out _ hS2)
      clear hS2 hne
      have HX := Lib.hid HS2.out.1
      have HBX := Lib.hid HS2.out.2
      have HADD := Lib.hid (HAD.out 0 (Nat.zero_le _) (fun x hx => by simp at hx) (fun h => by rw [hl0] at h; exact absurd h (by simp)))
      have HST : Hid (∀ W, Below w1.heap.size w1 W → Src KE W (.slice none 0 0) (m.take 0)) := Lib.hid fun W h => Or.inl ⟨rfl, by simp⟩
      have HSD : Hid (∀ W, Below w1.heap.size w1 W → Src KE W (.slice none 0 0) (m.drop 0)) := Lib.hid fun W h => Or.inl ⟨rfl, by rw [hl0]; rfl⟩
      clear HS2 HS0 hl0
      rename World => Wc
      go_upto_region 4 with (fail)
      refine wp_region_held_drew (S := (fun W => W.cell? ⟨X, 0, none⟩ = some (.string (Str key)) ∧ W.cell? ⟨X, 1, none⟩ = some (.int .i64 t))) (by kernel_rfl) (HRO.out Wc.drew HX.out) (fun hHeld => ?_)
      have HXd := Lib.hid (show ObjAt Wc.drew X #[.string (Str key), .int .i64 t] 53 from HX.out)
      have HBd := Lib.hid (bdrewN HBX.out 1)
      generalize hWd : World.drew Wc = Wd at HXd hHeld ⊢
      replace HBX := Lib.hid (show Below w1.heap.size w1 Wd from hWd ▸ HBd.out)
      replace HX := HXd
      clear HXd HBd hWd
      rename World => Wc
      refine wpAnyH_take (i := 1) (oi := { dst := some 30, op := _, type := _, pos := _, after := _, guard := _ }) (v := ?v101) rfl (by kernel_rfl) (by kernel_rfl) (by kernel_rfl) (fun _ _ _ h => h) (Or.inl ⟨by rfl, ?y101⟩) (by assumption) ?r101
      case y101 => (intro w hSw; obtain ⟨s1, s2⟩ := hSw; go_simp; try with_reducible rfl)
      try simp only [Act.put, List.setIfInBounds_toArray, List.set_cons_zero, List.set_cons_succ]
      refine wpAnyH_take (i := 2) (oi := { dst := some 31, op := _, type := _, pos := _, after := _, guard := _ }) (v := ?v102) rfl (by kernel_rfl) (by kernel_rfl) (by kernel_rfl) (fun _ _ _ h => h) (Or.inl ⟨by rfl, ?y102⟩) (by assumption) ?r102
      case y102 => (intro w hSw; obtain ⟨s1, s2⟩ := hSw; go_simp; try with_reducible rfl)
      try simp only [Act.put, List.setIfInBounds_toArray, List.set_cons_zero, List.set_cons_succ]
      refine wpAnyH_take (i := 3) (oi := { dst := some 32, op := _, type := _, pos := _, after := _, guard := _ }) (v := ?v103) rfl (by kernel_rfl) (by kernel_rfl) (by kernel_rfl) (fun _ _ _ h => h) (Or.inl ⟨by rfl, ?y103⟩) (by assumption) ?r103
      case y103 => (intro w hSw; obtain ⟨s1, s2⟩ := hSw; go_simp; try with_reducible rfl)
      try simp only [Act.put, List.setIfInBounds_toArray, List.set_cons_zero, List.set_cons_succ]
      refine wpAnyH_take (i := 5) (oi := { dst := some 34, op := _, type := _, pos := _, after := _, guard := _ }) (v := ?v104) rfl (by kernel_rfl) (by kernel_rfl) (by kernel_rfl) (fun _ _ _ h => h) (Or.inl ⟨by rfl, ?y104⟩) (by assumption) ?r104
      case y104 => (intro w hSw; obtain ⟨s1, s2⟩ := hSw; go_simp; try with_reducible rfl)
      try simp only [Act.put, List.setIfInBounds_toArray, List.set_cons_zero, List.set_cons_succ]
      refine wpAnyH_take (i := 8) (oi := { dst := some 37, op := _, type := _, pos := _, after := _, guard := _ }) (v := ?v105) rfl (by kernel_rfl) (by kernel_rfl) (by kernel_rfl) (fun _ _ _ h => h) (Or.inl ⟨by rfl, ?y105⟩) (by assumption) ?r105
      case y105 => (intro w hSw; obtain ⟨s1, s2⟩ := hSw; go_simp; try with_reducible rfl)
      try simp only [Act.put, List.setIfInBounds_toArray, List.set_cons_zero, List.set_cons_succ]
      refine wpAnyH_take (i := 9) (oi := { dst := some 38, op := _, type := _, pos := _, after := _, guard := _ }) (v := ?v106) rfl (by kernel_rfl) (by kernel_rfl) (by kernel_rfl) (fun _ _ _ h => h) (Or.inl ⟨by rfl, ?y106⟩) (by assumption) ?r106
      case y106 => (intro w hSw; obtain ⟨s1, s2⟩ := hSw; go_simp; try with_reducible rfl)
      try simp only [Act.put, List.setIfInBounds_toArray, List.set_cons_zero, List.set_cons_succ]
      refine wpAnyH_take (i := 10) (oi := { dst := some 39, op := _, type := _, pos := _, after := _, guard := _ }) (v := ?v107) rfl (by kernel_rfl) (by kernel_rfl) (by kernel_rfl) (fun _ _ _ h => h) (Or.inl ⟨by rfl, ?y107⟩) (by assumption) ?r107
      case y107 => (intro w hSw; obtain ⟨s1, s2⟩ := hSw; go_simp; try with_reducible rfl)
      try simp only [Act.put, List.setIfInBounds_toArray, List.set_cons_zero, List.set_cons_succ]
      refine wpAnyH_ready (rs := [0, 6]) (by kernel_rfl) (by simp) (AllReadyH.cons (o := { dst := some 29, op := _, type := _, pos := _, after := _, guard := _ }) rfl (fun K hK => ?_) (AllReadyH.cons (o := { dst := some 35, op := _, type := _, pos := _, after := _, guard := _ }) rfl (fun K hK => ?_) AllReadyH.nil))
      · go_simp
        refine hK.out _ _ (HRO.out _ (HX.out.alloc _)) (fun hHeld => ?_)
        clear hK K
        try simp only [Act.put, List.setIfInBounds_toArray, List.set_cons_zero, List.set_cons_succ]
        have HOW := Lib.hid (show OwnV KE 53 (Wc.alloc (.cells #[] 53)) (X + 1) (.slice (some ⟨Wc.heap.size, 0, none⟩) 0 0) ([] : List EN) from World.ownsRow_lit Wc #[] 0 HX.out.lt (by unfold maxLen; omega) (by simp))
        replace HX := Lib.hid (HX.out.below (bbV Wc (.cells #[] 53)) HX.out.lt)
        replace HBX := Lib.hid (bstep HBX.out (bbV Wc (.cells #[] 53)))
        generalize World.alloc Wc (.cells #[] _) = Wn at HX HBX HOW  hHeld ⊢
        generalize Wc.heap.size = g0 at HOW  ⊢
        rename World => Wc
        refine wpAnyH_ready (rs := [4, 6]) (by kernel_rfl) (by simp) (AllReadyH.cons (o := { dst := some 33, op := _, type := _, pos := _, after := _, guard := _ }) rfl (fun K hK => ?_) (AllReadyH.cons (o := { dst := some 35, op := _, type := _, pos := _, after := _, guard := _ }) rfl (fun K hK => ?_) AllReadyH.nil))
        · refine stepV rfl ?_
          refine wp_appE _ _ rfl (X + 1) _ ([]) (m.take 0) _ rfl HOW.out rfl (HST.out _ HBX.out) (by have := HLL.out; have := HN.out; rw [List.length_take]; simp only [List.length_nil]; omega) HX.out.lt ?_
          intro v' w' hown' hgrow'
          have hge := OwnV.ge HOW.out
          have hbg := bgrown HBX.out hgrow' (fun k hk => by have := (hge k hk).1; have := HXE.out; omega)
          have hxg := HX.out.grown hgrow' (fun e => by have := (hge _ e.symm).1; omega)
          refine hK.out _ _ (HRO.out _ hxg) (fun hHeld => ?_)
          clear hK K
          try simp only [Act.put, List.setIfInBounds_toArray, List.set_cons_zero, List.set_cons_succ]
          replace HX := Lib.hid hxg
          replace HBX := Lib.hid hbg
          rw [List.nil_append] at hown'
          have HOW := Lib.hid hown'
          clear hown' hgrow' hbg hge hxg
          rename World => Wc
          refine wpAnyH_ready (rs := [6]) (by kernel_rfl) (by simp) (AllReadyH.cons (o := { dst := some 35, op := _, type := _, pos := _, after := _, guard := _ }) rfl (fun K hK => ?_) AllReadyH.nil)
          go_simp
          refine hK.out _ _ (HRO.out _ (HX.out.alloc _)) (fun hHeld => ?_)
          clear hK K
          try simp only [Act.put, List.setIfInBounds_toArray, List.set_cons_zero, List.set_cons_succ]
          have HL6 := Lib.hid (ObjAt.made Wc #[.string (Str key), .int .i64 t] 53)
          replace HX := Lib.hid (HX.out.below (bbV Wc (.cells #[.string (Str key), .int .i64 t] 53)) HX.out.lt)
          replace HBX := Lib.hid (bstep HBX.out (bbV Wc (.cells #[.string (Str key), .int .i64 t] 53)))
          replace HOW := Lib.hid (OwnV.below HOW.out (bbV Wc (.cells #[.string (Str key), .int .i64 t] 53)))
          generalize World.alloc Wc (.cells _ _) = Wn at HX HBX HL6 HOW hHeld ⊢
          generalize Wc.heap.size = m6 at HL6  ⊢
          rename World => Wc
          refine wpAnyH_ready (rs := [7]) (by kernel_rfl) (by simp) (AllReadyH.cons (o := { dst := some 36, op := _, type := _, pos := _, after := _, guard := _ }) rfl (fun K hK => ?_) AllReadyH.nil)
          refine stepV rfl ?_
          refine wp_appE _ _ rfl (X + 1) _ (m.take 0) ([(key, t)]) _ rfl HOW.out rfl (src_oneV HL6.out) (by have := HLL.out; have := HN.out; rw [List.length_take]; simp only [List.length_cons, List.length_nil]; omega) HX.out.lt ?_
          intro v' w' hown' hgrow'
          have hge := OwnV.ge HOW.out
          have hbg := bgrown HBX.out hgrow' (fun k hk => by have := (hge k hk).1; have := HXE.out; omega)
          have hxg := HX.out.grown hgrow' (fun e => by have := (hge _ e.symm).1; omega)
          refine hK.out _ _ (HRO.out _ hxg) (fun hHeld => ?_)
          clear hK K
          try simp only [Act.put, List.setIfInBounds_toArray, List.set_cons_zero, List.set_cons_succ]
          replace HX := Lib.hid hxg
          replace HBX := Lib.hid hbg
          clear HL6
          have HOW := Lib.hid hown'
          clear hown' hgrow' hbg hge hxg
          rename World => Wc
          refine wpAnyH_ready (rs := [11]) (by kernel_rfl) (by simp) (AllReadyH.cons (o := { dst := some 40, op := _, type := _, pos := _, after := _, guard := _ }) rfl (fun K hK => ?_) AllReadyH.nil)
          refine stepV rfl ?_
          refine wp_appE _ _ rfl (X + 1) _ (m.take 0 ++ [(key, t)]) (m.drop 0) _ rfl HOW.out rfl (HSD.out _ HBX.out) (by have := HLL.out; have := HN.out; rw [List.length_append, List.length_take, List.length_drop]; simp only [List.length_cons, List.length_nil]; omega) HX.out.lt ?_
          intro v' w' hown' hgrow'
          have hge := OwnV.ge HOW.out
          have hbg := bgrown HBX.out hgrow' (fun k hk => by have := (hge k hk).1; have := HXE.out; omega)
          have hxg := HX.out.grown hgrow' (fun e => by have := (hge _ e.symm).1; omega)
          refine hK.out _ _ (HRO.out _ hxg) (fun hHeld => ?_)
          clear hK K
          try simp only [Act.put, List.setIfInBounds_toArray, List.set_cons_zero, List.set_cons_succ]
          replace HX := Lib.hid hxg
          replace HBX := Lib.hid hbg
          skip
          have HOW := Lib.hid hown'
          clear hown' hgrow' hbg hge hxg
          rename World => Wc
          refine wpAnyH_take (i := 12) (oi := { dst := some 6, op := _, type := _, pos := _, after := _, guard := _ }) (v := ?v108) rfl (by kernel_rfl) (by kernel_rfl) (by kernel_rfl) (fun _ _ _ h => h) (Or.inl ⟨by rfl, ?y108⟩) (by assumption) ?r108
          case y108 => (intro w hSw; obtain ⟨s1, s2⟩ := hSw; go_simp; try with_reducible rfl)
          try simp only [Act.put, List.setIfInBounds_toArray, List.set_cons_zero, List.set_cons_succ]
          refine wpAnyH_done (by kernel_rfl) ?_ _
          go_wp2_with fail
          go_ret
          exact ⟨_, rfl, bstep HB1.out HBX.out, by rw [HADD.out]; exact OwnV.mono (by simpa using HOW.out) (by have := HXE.out; have := HB1.out.size; omega)⟩
        · go_simp
          refine hK.out _ _ (HRO.out _ (HX.out.alloc _)) (fun hHeld => ?_)
          clear hK K
          try simp only [Act.put, List.setIfInBounds_toArray, List.set_cons_zero, List.set_cons_succ]
          have HL6 := Lib.hid (ObjAt.made Wc #[.string (Str key), .int .i64 t] 53)
          have HM := Lib.hid (show Wc.heap.size ≠ g0 from by have := (OwnV.ge HOW.out g0 rfl).2; omega)
          replace HX := Lib.hid (HX.out.below (bbV Wc (.cells #[.string (Str key), .int .i64 t] 53)) HX.out.lt)
          replace HBX := Lib.hid (bstep HBX.out (bbV Wc (.cells #[.string (Str key), .int .i64 t] 53)))
          replace HOW := Lib.hid (OwnV.below HOW.out (bbV Wc (.cells #[.string (Str key), .int .i64 t] 53)))
          generalize World.alloc Wc (.cells _ _) = Wn at HX HBX HL6 HOW hHeld ⊢
          generalize Wc.heap.size = m6 at HL6 HM ⊢
          rename World => Wc
          refine wpAnyH_ready (rs := [4]) (by kernel_rfl) (by simp) (AllReadyH.cons (o := { dst := some 33, op := _, type := _, pos := _, after := _, guard := _ }) rfl (fun K hK => ?_) AllReadyH.nil)
          refine stepV rfl ?_
          refine wp_appE _ _ rfl (X + 1) _ ([]) (m.take 0) _ rfl HOW.out rfl (HST.out _ HBX.out) (by have := HLL.out; have := HN.out; rw [List.length_take]; simp only [List.length_nil]; omega) HX.out.lt ?_
          intro v' w' hown' hgrow'
          have hge := OwnV.ge HOW.out
          have hbg := bgrown HBX.out hgrow' (fun k hk => by have := (hge k hk).1; have := HXE.out; omega)
          have hxg := HX.out.grown hgrow' (fun e => by have := (hge _ e.symm).1; omega)
          refine hK.out _ _ (HRO.out _ hxg) (fun hHeld => ?_)
          clear hK K
          try simp only [Act.put, List.setIfInBounds_toArray, List.set_cons_zero, List.set_cons_succ]
          replace HX := Lib.hid hxg
          replace HL6 := Lib.hid (HL6.out.grown hgrow' (fun e => HM.out (by have e2 : some m6 = some g0 := e; cases e2; rfl)))
          replace HBX := Lib.hid hbg
          rw [List.nil_append] at hown'
          have HOW := Lib.hid hown'
          clear hown' hgrow' hbg hge hxg
          rename World => Wc
          refine wpAnyH_ready (rs := [7]) (by kernel_rfl) (by simp) (AllReadyH.cons (o := { dst := some 36, op := _, type := _, pos := _, after := _, guard := _ }) rfl (fun K hK => ?_) AllReadyH.nil)
          refine stepV rfl ?_
          refine wp_appE _ _ rfl (X + 1) _ (m.take 0) ([(key, t)]) _ rfl HOW.out rfl (src_oneV HL6.out) (by have := HLL.out; have := HN.out; rw [List.length_take]; simp only [List.length_cons, List.length_nil]; omega) HX.out.lt ?_
          intro v' w' hown' hgrow'
          have hge := OwnV.ge HOW.out
          have hbg := bgrown HBX.out hgrow' (fun k hk => by have := (hge k hk).1; have := HXE.out; omega)
          have hxg := HX.out.grown hgrow' (fun e => by have := (hge _ e.symm).1; omega)
          refine hK.out _ _ (HRO.out _ hxg) (fun hHeld => ?_)
          clear hK K
          try simp only [Act.put, List.setIfInBounds_toArray, List.set_cons_zero, List.set_cons_succ]
          replace HX := Lib.hid hxg
          replace HBX := Lib.hid hbg
          clear HL6
          have HOW := Lib.hid hown'
          clear hown' hgrow' hbg hge hxg
          rename World => Wc
          refine wpAnyH_ready (rs := [11]) (by kernel_rfl) (by simp) (AllReadyH.cons (o := { dst := some 40, op := _, type := _, pos := _, after := _, guard := _ }) rfl (fun K hK => ?_) AllReadyH.nil)
          refine stepV rfl ?_
          refine wp_appE _ _ rfl (X + 1) _ (m.take 0 ++ [(key, t)]) (m.drop 0) _ rfl HOW.out rfl (HSD.out _ HBX.out) (by have := HLL.out; have := HN.out; rw [List.length_append, List.length_take, List.length_drop]; simp only [List.length_cons, List.length_nil]; omega) HX.out.lt ?_
          intro v' w' hown' hgrow'
          have hge := OwnV.ge HOW.out
          have hbg := bgrown HBX.out hgrow' (fun k hk => by have := (hge k hk).1; have := HXE.out; omega)
          have hxg := HX.out.grown hgrow' (fun e => by have := (hge _ e.symm).1; omega)
          refine hK.out _ _ (HRO.out _ hxg) (fun hHeld => ?_)
          clear hK K
          try simp only [Act.put, List.setIfInBounds_toArray, List.set_cons_zero, List.set_cons_succ]
          replace HX := Lib.hid hxg
          replace HBX := Lib.hid hbg
          skip
          have HOW := Lib.hid hown'
          clear hown' hgrow' hbg hge hxg
          rename World => Wc
          refine wpAnyH_take (i := 12) (oi := { dst := some 6, op := _, type := _, pos := _, after := _, guard := _ }) (v := ?v109) rfl (by kernel_rfl) (by kernel_rfl) (by kernel_rfl) (fun _ _ _ h => h) (Or.inl ⟨by rfl, ?y109⟩) (by assumption) ?r109
          case y109 => (intro w hSw; obtain ⟨s1, s2⟩ := hSw; go_simp; try with_reducible rfl)
          try simp only [Act.put, List.setIfInBounds_toArray, List.set_cons_zero, List.set_cons_succ]
          refine wpAnyH_done (by kernel_rfl) ?_ _
          go_wp2_with fail
          go_ret
          exact ⟨_, rfl, bstep HB1.out HBX.out, by rw [HADD.out]; exact OwnV.mono (by simpa using HOW.out) (by have := HXE.out; have := HB1.out.size; omega)⟩
      · go_simp
        refine hK.out _ _ (HRO.out _ (HX.out.alloc _)) (fun hHeld => ?_)
        clear hK K
        try simp only [Act.put, List.setIfInBounds_toArray, List.set_cons_zero, List.set_cons_succ]
        have HL6 := Lib.hid (ObjAt.made Wc #[.string (Str key), .int .i64 t] 53)
        replace HX := Lib.hid (HX.out.below (bbV Wc (.cells #[.string (Str key), .int .i64 t] 53)) HX.out.lt)
        replace HBX := Lib.hid (bstep HBX.out (bbV Wc (.cells #[.string (Str key), .int .i64 t] 53)))
        generalize World.alloc Wc (.cells _ _) = Wn at HX HBX HL6  hHeld ⊢
        generalize Wc.heap.size = m6 at HL6  ⊢
        rename World => Wc
        refine wpAnyH_ready (rs := [0]) (by kernel_rfl) (by simp) (AllReadyH.cons (o := { dst := some 29, op := _, type := _, pos := _, after := _, guard := _ }) rfl (fun K hK => ?_) AllReadyH.nil)
        go_simp
        refine hK.out _ _ (HRO.out _ (HX.out.alloc _)) (fun hHeld => ?_)
        clear hK K
        try simp only [Act.put, List.setIfInBounds_toArray, List.set_cons_zero, List.set_cons_succ]
        have HOW := Lib.hid (show OwnV KE 53 (Wc.alloc (.cells #[] 53)) (X + 1) (.slice (some ⟨Wc.heap.size, 0, none⟩) 0 0) ([] : List EN) from World.ownsRow_lit Wc #[] 0 HX.out.lt (by unfold maxLen; omega) (by simp))
        have HM := Lib.hid (show m6 ≠ Wc.heap.size from by have := HL6.out.lt; omega)
        replace HX := Lib.hid (HX.out.below (bbV Wc (.cells #[] 53)) HX.out.lt)
        replace HBX := Lib.hid (bstep HBX.out (bbV Wc (.cells #[] 53)))
        replace HL6 := Lib.hid (HL6.out.below (bbV Wc (.cells #[] 53)) HL6.out.lt)
        generalize World.alloc Wc (.cells #[] _) = Wn at HX HBX HOW HL6 hHeld ⊢
        generalize Wc.heap.size = g0 at HOW HM ⊢
        rename World => Wc
        refine wpAnyH_ready (rs := [4]) (by kernel_rfl) (by simp) (AllReadyH.cons (o := { dst := some 33, op := _, type := _, pos := _, after := _, guard := _ }) rfl (fun K hK => ?_) AllReadyH.nil)
        refine stepV rfl ?_
        refine wp_appE _ _ rfl (X + 1) _ ([]) (m.take 0) _ rfl HOW.out rfl (HST.out _ HBX.out) (by have := HLL.out; have := HN.out; rw [List.length_take]; simp only [List.length_nil]; omega) HX.out.lt ?_
        intro v' w' hown' hgrow'
        have hge := OwnV.ge HOW.out
        have hbg := bgrown HBX.out hgrow' (fun k hk => by have := (hge k hk).1; have := HXE.out; omega)
        have hxg := HX.out.grown hgrow' (fun e => by have := (hge _ e.symm).1; omega)
        refine hK.out _ _ (HRO.out _ hxg) (fun hHeld => ?_)
        clear hK K
        try simp only [Act.put, List.setIfInBounds_toArray, List.set_cons_zero, List.set_cons_succ]
        replace HX := Lib.hid hxg
        replace HL6 := Lib.hid (HL6.out.grown hgrow' (fun e => HM.out (by have e2 : some m6 = some g0 := e; cases e2; rfl)))
        replace HBX := Lib.hid hbg
        rw [List.nil_append] at hown'
        have HOW := Lib.hid hown'
        clear hown' hgrow' hbg hge hxg
        rename World => Wc
        refine wpAnyH_ready (rs := [7]) (by kernel_rfl) (by simp) (AllReadyH.cons (o := { dst := some 36, op := _, type := _, pos := _, after := _, guard := _ }) rfl (fun K hK => ?_) AllReadyH.nil)
        refine stepV rfl ?_
        refine wp_appE _ _ rfl (X + 1) _ (m.take 0) ([(key, t)]) _ rfl HOW.out rfl (src_oneV HL6.out) (by have := HLL.out; have := HN.out; rw [List.length_take]; simp only [List.length_cons, List.length_nil]; omega) HX.out.lt ?_
        intro v' w' hown' hgrow'
        have hge := OwnV.ge HOW.out
        have hbg := bgrown HBX.out hgrow' (fun k hk => by have := (hge k hk).1; have := HXE.out; omega)
        have hxg := HX.out.grown hgrow' (fun e => by have := (hge _ e.symm).1; omega)
        refine hK.out _ _ (HRO.out _ hxg) (fun hHeld => ?_)
        clear hK K
        try simp only [Act.put, List.setIfInBounds_toArray, List.set_cons_zero, List.set_cons_succ]
        replace HX := Lib.hid hxg
        replace HBX := Lib.hid hbg
        clear HL6
        have HOW := Lib.hid hown'
        clear hown' hgrow' hbg hge hxg
        rename World => Wc
        refine wpAnyH_ready (rs := [11]) (by kernel_rfl) (by simp) (AllReadyH.cons (o := { dst := some 40, op := _, type := _, pos := _, after := _, guard := _ }) rfl (fun K hK => ?_) AllReadyH.nil)
        refine stepV rfl ?_
        refine wp_appE _ _ rfl (X + 1) _ (m.take 0 ++ [(key, t)]) (m.drop 0) _ rfl HOW.out rfl (HSD.out _ HBX.out) (by have := HLL.out; have := HN.out; rw [List.length_append, List.length_take, List.length_drop]; simp only [List.length_cons, List.length_nil]; omega) HX.out.lt ?_
        intro v' w' hown' hgrow'
        have hge := OwnV.ge HOW.out
        have hbg := bgrown HBX.out hgrow' (fun k hk => by have := (hge k hk).1; have := HXE.out; omega)
        have hxg := HX.out.grown hgrow' (fun e => by have := (hge _ e.symm).1; omega)
        refine hK.out _ _ (HRO.out _ hxg) (fun hHeld => ?_)
        clear hK K
        try simp only [Act.put, List.setIfInBounds_toArray, List.set_cons_zero, List.set_cons_succ]
        replace HX := Lib.hid hxg
        replace HBX := Lib.hid hbg
        skip
        have HOW := Lib.hid hown'
        clear hown' hgrow' hbg hge hxg
        rename World => Wc
        refine wpAnyH_take (i := 12) (oi := { dst := some 6, op := _, type := _, pos := _, after := _, guard := _ }) (v := ?v110) rfl (by kernel_rfl) (by kernel_rfl) (by kernel_rfl) (fun _ _ _ h => h) (Or.inl ⟨by rfl, ?y110⟩) (by assumption) ?r110
        case y110 => (intro w hSw; obtain ⟨s1, s2⟩ := hSw; go_simp; try with_reducible rfl)
        try simp only [Act.put, List.setIfInBounds_toArray, List.set_cons_zero, List.set_cons_succ]
        refine wpAnyH_done (by kernel_rfl) ?_ _
        go_wp2_with fail
        go_ret
        exact ⟨_, rfl, bstep HB1.out HBX.out, by rw [HADD.out]; exact OwnV.mono (by simpa using HOW.out) (by have := HXE.out; have := HB1.out.size; omega)⟩
  · subst hp0
    rw [← hn]
    have RAX := Lib.hid RA
    clear hn
    go_wp2_with fail
    go_loopw [8] (fun i wr => ∃ k : Nat, k ≤ n ∧ i = .int .i64 k ∧ Hid (∀ x ∈ m.take k, ltE x (key, t) = true) ∧ Hid (ObjAt wr X #[.string (Str key), .int .i64 t] 53) ∧ Hid (Below w1.heap.size w1 wr)) (fun i _ => n - (intOf i).toNat)
    case atStart => exact ⟨0, by omega, rfl, Lib.hid (by simp), HX, HBX⟩
    case round =>
      obtain ⟨k, hk, rfl, HT, HX, HBX⟩ := hrel
      have HS0 := Lib.hid (HSI.out wr.drew HX.out (bdrewN HBX.out 1))
      have hw1 : IntKind.i64.wrap ((k : Int) + 1) = (k : Int) + 1 := by simp only [IntKind.wrap_i64]; omega
      by_cases hlt : k < n
      · have hk1 : (k : Int) < (n : Int) := by omega
        have g1 : k < m.length := by rw [← HN.out]; exact hlt
        have HR1 : Hid (∀ p : InS S, p.W.cell? ⟨g, k * 2, none⟩ = some (.string (Str m[k].1))) := Lib.hid fun p => by
          have := (KE_key (Kind.At.below RAX.out hgl (HSE.out _ p.h).2) g1).1
          rwa [Nat.zero_add] at this
        have HR2 : Hid (∀ p : InS S, p.W.cell? ⟨g, k * 2 + 1, none⟩ = some (.int .i64 m[k].2)) := Lib.hid fun p => by
          have := (KE_key (Kind.At.below RAX.out hgl (HSE.out _ p.h).2) g1).2
          rwa [Nat.zero_add] at this
        have HBF : Hid (∀ W, Calls Try.prog 25 #[.agg #[.string (Str m[k].1), .int .i64 m[k].2], .agg #[.string (Str key), .int .i64 t]] W fun x w' => x = .returned (.bool (ltE m[k] (key, t))) ∧ Below W.heap.size W w') := Lib.hid fun W => before12_any m[k] (key, t) W
        cases hh : ltE m[k] (key, t) with
        | true =>
          rw [hh] at HBF
          have HTS := Lib.hid (take_lt_succ g1 HT.out hh)
          generalize m[k].1 = c1 at *
          generalize m[k].2 = c2 at *
          clear hh g1 RA hgl
          go_upto_region 2 with (fail)
          have fr1 := HR1.out
          have fr2 := HR2.out
          have fr3 := HR3.out
          have fr4 := HR4.out
          have hne : Nonempty (InS S) := ⟨⟨_, HS0.out⟩⟩
          refine wp_region_inS S (by kernel_rfl) (by kernel_rfl) HS0.out ?_
          repeat (go_big_quiet_step ((go_at_call 25; exact Calls.inS HKP.out _ (fun W _ => HBF.out W))))
          refine wpQuiet_nil ?_
          rintro _ ⟨⟨W2, hS2⟩, rfl⟩
          have HS2 := Lib.hid (HSE.out _ hS2)
          clear hS2 hne
          clear fr1 fr2 fr3 fr4
          go_wp2
          go_roundw
          case rel => exact ⟨k + 1, by omega, by go_num, HTS, Lib.hid HS2.out.1, Lib.hid HS2.out.2⟩
          case measure => simp [intOf]; omega
        | false =>
          rw [hh] at HBF
          have HADD := Lib.hid (HAD.out k (Nat.le_of_lt g1) HT.out (fun _ => hh))
          generalize m[k].1 = c1 at *
          generalize m[k].2 = c2 at *
          go_upto_region 2 with (fail)
          have fr1 := HR1.out
          have fr2 := HR2.out
          have fr3 := HR3.out
          have fr4 := HR4.out
          have hne : Nonempty (InS S) := ⟨⟨_, HS0.out⟩⟩
          refine wp_region_inS S (by kernel_rfl) (by kernel_rfl) HS0.out ?_
          repeat (go_big_quiet_step ((go_at_call 25; exact Calls.inS HKP.out _ (fun W _ => HBF.out W))))
          refine wpQuiet_nil ?_
          rintro _ ⟨⟨W2, hS2⟩, rfl⟩
          have HS2 := Lib.hid (HSE.out _ hS2)
          clear hS2 hne
          clear fr1 fr2 fr3 fr4 HR1 HR2 HBF hh g1
          have HX := Lib.hid HS2.out.1
          have HBX := Lib.hid HS2.out.2
          have HST : Hid (∀ W, Below w1.heap.size w1 W → Src KE W (.slice (some ⟨g, 0, none⟩) k cap) (m.take k)) := Lib.hid fun W h => src_takeV (Kind.At.below RAX.out hgl h) (by have := HN.out; omega)
          have HSD : Hid (∀ W, Below w1.heap.size w1 W → Src KE W (.slice (if cap = k then some ⟨g, 0, none⟩ else some ⟨g, k * 2, none⟩) (n - k) (cap - k)) (m.drop k)) := Lib.hid fun W h => by
            have := src_dropV (cap := cap) (c := cap - k) (Kind.At.below RAX.out hgl h) HN.out hk HCAP.out.1
            rw [Nat.zero_add] at this
            exact this
          obtain ⟨q40, hif⟩ : ∃ q, (if cap = k then some (⟨g, 0, none⟩ : Addr) else some ⟨g, k * 2, none⟩) = q := ⟨_, rfl⟩
          rw [hif] at HSD
          clear HS2 HS0 RA hgl
          rename World => Wc
          have hkc : k ≤ cap := by have := HCAP.out.1; omega
          have hnc : n ≤ cap := HCAP.out.1
          go_upto_region 4 with (fail)
          refine wp_region_held_drew (S := (fun W => W.cell? ⟨X, 0, none⟩ = some (.string (Str key)) ∧ W.cell? ⟨X, 1, none⟩ = some (.int .i64 t))) (by kernel_rfl) (HRO.out Wc.drew HX.out) (fun hHeld => ?_)
          have HXd := Lib.hid (show ObjAt Wc.drew X #[.string (Str key), .int .i64 t] 53 from HX.out)
          have HBd := Lib.hid (bdrewN HBX.out 1)
          generalize hWd : World.drew Wc = Wd at HXd hHeld ⊢
          replace HBX := Lib.hid (show Below w1.heap.size w1 Wd from hWd ▸ HBd.out)
          replace HX := HXd
          clear HXd HBd hWd
          rename World => Wc
          refine wpAnyH_take (i := 1) (oi := { dst := some 30, op := _, type := _, pos := _, after := _, guard := _ }) (v := ?v201) rfl (by kernel_rfl) (by kernel_rfl) (by kernel_rfl) (fun _ _ _ h => h) (Or.inl ⟨by rfl, ?y201⟩) (by assumption) ?r201
          case y201 => (intro w hSw; obtain ⟨s1, s2⟩ := hSw; go_simp; try with_reducible rfl)
          try simp only [Act.put, List.setIfInBounds_toArray, List.set_cons_zero, List.set_cons_succ]
          refine wpAnyH_take (i := 2) (oi := { dst := some 31, op := _, type := _, pos := _, after := _, guard := _ }) (v := ?v202) rfl (by kernel_rfl) (by kernel_rfl) (by kernel_rfl) (fun _ _ _ h => h) (Or.inl ⟨by rfl, ?y202⟩) (by assumption) ?r202
          case y202 => (intro w hSw; obtain ⟨s1, s2⟩ := hSw; go_simp; try with_reducible rfl)
          try simp only [Act.put, List.setIfInBounds_toArray, List.set_cons_zero, List.set_cons_succ]
          refine wpAnyH_take (i := 3) (oi := { dst := some 32, op := _, type := _, pos := _, after := _, guard := _ }) (v := ?v203) rfl (by kernel_rfl) (by kernel_rfl) (by kernel_rfl) (fun _ _ _ h => h) (Or.inl ⟨by rfl, ?y203⟩) (by assumption) ?r203
          case y203 => (intro w hSw; obtain ⟨s1, s2⟩ := hSw; go_simp; try with_reducible rfl)
          try simp only [Act.put, List.setIfInBounds_toArray, List.set_cons_zero, List.set_cons_succ]
          refine wpAnyH_take (i := 5) (oi := { dst := some 34, op := _, type := _, pos := _, after := _, guard := _ }) (v := ?v204) rfl (by kernel_rfl) (by kernel_rfl) (by kernel_rfl) (fun _ _ _ h => h) (Or.inl ⟨by rfl, ?y204⟩) (by assumption) ?r204
          case y204 => (intro w hSw; obtain ⟨s1, s2⟩ := hSw; go_simp; try with_reducible rfl)
          try simp only [Act.put, List.setIfInBounds_toArray, List.set_cons_zero, List.set_cons_succ]
          refine wpAnyH_take (i := 8) (oi := { dst := some 37, op := _, type := _, pos := _, after := _, guard := _ }) (v := ?v205) rfl (by kernel_rfl) (by kernel_rfl) (by kernel_rfl) (fun _ _ _ h => h) (Or.inl ⟨by rfl, ?y205⟩) (by assumption) ?r205
          case y205 => (intro w hSw; obtain ⟨s1, s2⟩ := hSw; go_simp; try with_reducible rfl)
          try simp only [Act.put, List.setIfInBounds_toArray, List.set_cons_zero, List.set_cons_succ]
          refine wpAnyH_take (i := 9) (oi := { dst := some 38, op := _, type := _, pos := _, after := _, guard := _ }) (v := ?v206) rfl (by kernel_rfl) (by kernel_rfl) (by kernel_rfl) (fun _ _ _ h => h) (Or.inl ⟨by rfl, ?y206⟩) (by assumption) ?r206
          case y206 => (intro w hSw; obtain ⟨s1, s2⟩ := hSw; go_simp; try with_reducible rfl)
          try simp only [Act.put, List.setIfInBounds_toArray, List.set_cons_zero, List.set_cons_succ]
          refine wpAnyH_take (i := 10) (oi := { dst := some 39, op := _, type := _, pos := _, after := _, guard := _ }) (v := ?v207) rfl (by kernel_rfl) (by kernel_rfl) (by kernel_rfl) (fun _ _ _ h => h) (Or.inl ⟨by rfl, ?y207⟩) (by assumption) ?r207
          case y207 => (intro w hSw; obtain ⟨s1, s2⟩ := hSw; go_simp; try with_reducible rfl)
          try simp only [Act.put, List.setIfInBounds_toArray, List.set_cons_zero, List.set_cons_succ]
          refine wpAnyH_ready (rs := [0, 6]) (by kernel_rfl) (by simp) (AllReadyH.cons (o := { dst := some 29, op := _, type := _, pos := _, after := _, guard := _ }) rfl (fun K hK => ?_) (AllReadyH.cons (o := { dst := some 35, op := _, type := _, pos := _, after := _, guard := _ }) rfl (fun K hK => ?_) AllReadyH.nil))
          · go_simp
            refine hK.out _ _ (HRO.out _ (HX.out.alloc _)) (fun hHeld => ?_)
            clear hK K
            try simp only [Act.put, List.setIfInBounds_toArray, List.set_cons_zero, List.set_cons_succ]
            have HOW := Lib.hid (show OwnV KE 53 (Wc.alloc (.cells #[] 53)) (X + 1) (.slice (some ⟨Wc.heap.size, 0, none⟩) 0 0) ([] : List EN) from World.ownsRow_lit Wc #[] 0 HX.out.lt (by unfold maxLen; omega) (by simp))
            replace HX := Lib.hid (HX.out.below (bbV Wc (.cells #[] 53)) HX.out.lt)
            replace HBX := Lib.hid (bstep HBX.out (bbV Wc (.cells #[] 53)))
            generalize World.alloc Wc (.cells #[] _) = Wn at HX HBX HOW  hHeld ⊢
            generalize Wc.heap.size = g0 at HOW  ⊢
            rename World => Wc
            refine wpAnyH_ready (rs := [4, 6]) (by kernel_rfl) (by simp) (AllReadyH.cons (o := { dst := some 33, op := _, type := _, pos := _, after := _, guard := _ }) rfl (fun K hK => ?_) (AllReadyH.cons (o := { dst := some 35, op := _, type := _, pos := _, after := _, guard := _ }) rfl (fun K hK => ?_) AllReadyH.nil))
            · refine stepV rfl ?_
              refine wp_appE _ _ rfl (X + 1) _ ([]) (m.take k) _ rfl HOW.out rfl (HST.out _ HBX.out) (by have := HLL.out; have := HN.out; rw [List.length_take]; simp only [List.length_nil]; omega) HX.out.lt ?_
              intro v' w' hown' hgrow'
              have hge := OwnV.ge HOW.out
              have hbg := bgrown HBX.out hgrow' (fun k hk => by have := (hge k hk).1; have := HXE.out; omega)
              have hxg := HX.out.grown hgrow' (fun e => by have := (hge _ e.symm).1; omega)
              refine hK.out _ _ (HRO.out _ hxg) (fun hHeld => ?_)
              clear hK K
              try simp only [Act.put, List.setIfInBounds_toArray, List.set_cons_zero, List.set_cons_succ]
              replace HX := Lib.hid hxg
              replace HBX := Lib.hid hbg
              rw [List.nil_append] at hown'
              have HOW := Lib.hid hown'
              clear hown' hgrow' hbg hge hxg
              rename World => Wc
              refine wpAnyH_ready (rs := [6]) (by kernel_rfl) (by simp) (AllReadyH.cons (o := { dst := some 35, op := _, type := _, pos := _, after := _, guard := _ }) rfl (fun K hK => ?_) AllReadyH.nil)
              go_simp
              refine hK.out _ _ (HRO.out _ (HX.out.alloc _)) (fun hHeld => ?_)
              clear hK K
              try simp only [Act.put, List.setIfInBounds_toArray, List.set_cons_zero, List.set_cons_succ]
              have HL6 := Lib.hid (ObjAt.made Wc #[.string (Str key), .int .i64 t] 53)
              replace HX := Lib.hid (HX.out.below (bbV Wc (.cells #[.string (Str key), .int .i64 t] 53)) HX.out.lt)
              replace HBX := Lib.hid (bstep HBX.out (bbV Wc (.cells #[.string (Str key), .int .i64 t] 53)))
              replace HOW := Lib.hid (OwnV.below HOW.out (bbV Wc (.cells #[.string (Str key), .int .i64 t] 53)))
              generalize World.alloc Wc (.cells _ _) = Wn at HX HBX HL6 HOW hHeld ⊢
              generalize Wc.heap.size = m6 at HL6  ⊢
              rename World => Wc
              refine wpAnyH_ready (rs := [7]) (by kernel_rfl) (by simp) (AllReadyH.cons (o := { dst := some 36, op := _, type := _, pos := _, after := _, guard := _ }) rfl (fun K hK => ?_) AllReadyH.nil)
              refine stepV rfl ?_
              refine wp_appE _ _ rfl (X + 1) _ (m.take k) ([(key, t)]) _ rfl HOW.out rfl (src_oneV HL6.out) (by have := HLL.out; have := HN.out; rw [List.length_take]; simp only [List.length_cons, List.length_nil]; omega) HX.out.lt ?_
              intro v' w' hown' hgrow'
              have hge := OwnV.ge HOW.out
              have hbg := bgrown HBX.out hgrow' (fun k hk => by have := (hge k hk).1; have := HXE.out; omega)
              have hxg := HX.out.grown hgrow' (fun e => by have := (hge _ e.symm).1; omega)
              refine hK.out _ _ (HRO.out _ hxg) (fun hHeld => ?_)
              clear hK K
              try simp only [Act.put, List.setIfInBounds_toArray, List.set_cons_zero, List.set_cons_succ]
              replace HX := Lib.hid hxg
              replace HBX := Lib.hid hbg
              clear HL6
              have HOW := Lib.hid hown'
              clear hown' hgrow' hbg hge hxg
              rename World => Wc
              refine wpAnyH_ready (rs := [11]) (by kernel_rfl) (by simp) (AllReadyH.cons (o := { dst := some 40, op := _, type := _, pos := _, after := _, guard := _ }) rfl (fun K hK => ?_) AllReadyH.nil)
              refine stepV rfl ?_
              refine wp_appE _ _ rfl (X + 1) _ (m.take k ++ [(key, t)]) (m.drop k) _ rfl HOW.out rfl (HSD.out _ HBX.out) (by have := HLL.out; have := HN.out; rw [List.length_append, List.length_take, List.length_drop]; simp only [List.length_cons, List.length_nil]; omega) HX.out.lt ?_
              intro v' w' hown' hgrow'
              have hge := OwnV.ge HOW.out
              have hbg := bgrown HBX.out hgrow' (fun k hk => by have := (hge k hk).1; have := HXE.out; omega)
              have hxg := HX.out.grown hgrow' (fun e => by have := (hge _ e.symm).1; omega)
              refine hK.out _ _ (HRO.out _ hxg) (fun hHeld => ?_)
              clear hK K
              try simp only [Act.put, List.setIfInBounds_toArray, List.set_cons_zero, List.set_cons_succ]
              replace HX := Lib.hid hxg
              replace HBX := Lib.hid hbg
              skip
              have HOW := Lib.hid hown'
              clear hown' hgrow' hbg hge hxg
              rename World => Wc
              refine wpAnyH_take (i := 12) (oi := { dst := some 6, op := _, type := _, pos := _, after := _, guard := _ }) (v := ?v208) rfl (by kernel_rfl) (by kernel_rfl) (by kernel_rfl) (fun _ _ _ h => h) (Or.inl ⟨by rfl, ?y208⟩) (by assumption) ?r208
              case y208 => (intro w hSw; obtain ⟨s1, s2⟩ := hSw; go_simp; try with_reducible rfl)
              try simp only [Act.put, List.setIfInBounds_toArray, List.set_cons_zero, List.set_cons_succ]
              refine wpAnyH_done (by kernel_rfl) ?_ _
              go_wp2_with fail
              go_ret
              exact ⟨_, rfl, bstep HB1.out HBX.out, by rw [HADD.out]; exact OwnV.mono (by simpa using HOW.out) (by have := HXE.out; have := HB1.out.size; omega)⟩
            · go_simp
              refine hK.out _ _ (HRO.out _ (HX.out.alloc _)) (fun hHeld => ?_)
              clear hK K
              try simp only [Act.put, List.setIfInBounds_toArray, List.set_cons_zero, List.set_cons_succ]
              have HL6 := Lib.hid (ObjAt.made Wc #[.string (Str key), .int .i64 t] 53)
              have HM := Lib.hid (show Wc.heap.size ≠ g0 from by have := (OwnV.ge HOW.out g0 rfl).2; omega)
              replace HX := Lib.hid (HX.out.below (bbV Wc (.cells #[.string (Str key), .int .i64 t] 53)) HX.out.lt)
              replace HBX := Lib.hid (bstep HBX.out (bbV Wc (.cells #[.string (Str key), .int .i64 t] 53)))
              replace HOW := Lib.hid (OwnV.below HOW.out (bbV Wc (.cells #[.string (Str key), .int .i64 t] 53)))
              generalize World.alloc Wc (.cells _ _) = Wn at HX HBX HL6 HOW hHeld ⊢
              generalize Wc.heap.size = m6 at HL6 HM ⊢
              rename World => Wc
              refine wpAnyH_ready (rs := [4]) (by kernel_rfl) (by simp) (AllReadyH.cons (o := { dst := some 33, op := _, type := _, pos := _, after := _, guard := _ }) rfl (fun K hK => ?_) AllReadyH.nil)
              refine stepV rfl ?_
              refine wp_appE _ _ rfl (X + 1) _ ([]) (m.take k) _ rfl HOW.out rfl (HST.out _ HBX.out) (by have := HLL.out; have := HN.out; rw [List.length_take]; simp only [List.length_nil]; omega) HX.out.lt ?_
              intro v' w' hown' hgrow'
              have hge := OwnV.ge HOW.out
              have hbg := bgrown HBX.out hgrow' (fun k hk => by have := (hge k hk).1; have := HXE.out; omega)
              have hxg := HX.out.grown hgrow' (fun e => by have := (hge _ e.symm).1; omega)
              refine hK.out _ _ (HRO.out _ hxg) (fun hHeld => ?_)
              clear hK K
              try simp only [Act.put, List.setIfInBounds_toArray, List.set_cons_zero, List.set_cons_succ]
              replace HX := Lib.hid hxg
              replace HL6 := Lib.hid (HL6.out.grown hgrow' (fun e => HM.out (by have e2 : some m6 = some g0 := e; cases e2; rfl)))
              replace HBX := Lib.hid hbg
              rw [List.nil_append] at hown'
              have HOW := Lib.hid hown'
              clear hown' hgrow' hbg hge hxg
              rename World => Wc
              refine wpAnyH_ready (rs := [7]) (by kernel_rfl) (by simp) (AllReadyH.cons (o := { dst := some 36, op := _, type := _, pos := _, after := _, guard := _ }) rfl (fun K hK => ?_) AllReadyH.nil)
              refine stepV rfl ?_
              refine wp_appE _ _ rfl (X + 1) _ (m.take k) ([(key, t)]) _ rfl HOW.out rfl (src_oneV HL6.out) (by have := HLL.out; have := HN.out; rw [List.length_take]; simp only [List.length_cons, List.length_nil]; omega) HX.out.lt ?_
              intro v' w' hown' hgrow'
              have hge := OwnV.ge HOW.out
              have hbg := bgrown HBX.out hgrow' (fun k hk => by have := (hge k hk).1; have := HXE.out; omega)
              have hxg := HX.out.grown hgrow' (fun e => by have := (hge _ e.symm).1; omega)
              refine hK.out _ _ (HRO.out _ hxg) (fun hHeld => ?_)
              clear hK K
              try simp only [Act.put, List.setIfInBounds_toArray, List.set_cons_zero, List.set_cons_succ]
              replace HX := Lib.hid hxg
              replace HBX := Lib.hid hbg
              clear HL6
              have HOW := Lib.hid hown'
              clear hown' hgrow' hbg hge hxg
              rename World => Wc
              refine wpAnyH_ready (rs := [11]) (by kernel_rfl) (by simp) (AllReadyH.cons (o := { dst := some 40, op := _, type := _, pos := _, after := _, guard := _ }) rfl (fun K hK => ?_) AllReadyH.nil)
              refine stepV rfl ?_
              refine wp_appE _ _ rfl (X + 1) _ (m.take k ++ [(key, t)]) (m.drop k) _ rfl HOW.out rfl (HSD.out _ HBX.out) (by have := HLL.out; have := HN.out; rw [List.length_append, List.length_take, List.length_drop]; simp only [List.length_cons, List.length_nil]; omega) HX.out.lt ?_
              intro v' w' hown' hgrow'
              have hge := OwnV.ge HOW.out
              have hbg := bgrown HBX.out hgrow' (fun k hk => by have := (hge k hk).1; have := HXE.out; omega)
              have hxg := HX.out.grown hgrow' (fun e => by have := (hge _ e.symm).1; omega)
              refine hK.out _ _ (HRO.out _ hxg) (fun hHeld => ?_)
              clear hK K
              try simp only [Act.put, List.setIfInBounds_toArray, List.set_cons_zero, List.set_cons_succ]
              replace HX := Lib.hid hxg
              replace HBX := Lib.hid hbg
              skip
              have HOW := Lib.hid hown'
              clear hown' hgrow' hbg hge hxg
              rename World => Wc
              refine wpAnyH_take (i := 12) (oi := { dst := some 6, op := _, type := _, pos := _, after := _, guard := _ }) (v := ?v209) rfl (by kernel_rfl) (by kernel_rfl) (by kernel_rfl) (fun _ _ _ h => h) (Or.inl ⟨by rfl, ?y209⟩) (by assumption) ?r209
              case y209 => (intro w hSw; obtain ⟨s1, s2⟩ := hSw; go_simp; try with_reducible rfl)
              try simp only [Act.put, List.setIfInBounds_toArray, List.set_cons_zero, List.set_cons_succ]
              refine wpAnyH_done (by kernel_rfl) ?_ _
              go_wp2_with fail
              go_ret
              exact ⟨_, rfl, bstep HB1.out HBX.out, by rw [HADD.out]; exact OwnV.mono (by simpa using HOW.out) (by have := HXE.out; have := HB1.out.size; omega)⟩
          · go_simp
            refine hK.out _ _ (HRO.out _ (HX.out.alloc _)) (fun hHeld => ?_)
            clear hK K
            try simp only [Act.put, List.setIfInBounds_toArray, List.set_cons_zero, List.set_cons_succ]
            have HL6 := Lib.hid (ObjAt.made Wc #[.string (Str key), .int .i64 t] 53)
            replace HX := Lib.hid (HX.out.below (bbV Wc (.cells #[.string (Str key), .int .i64 t] 53)) HX.out.lt)
            replace HBX := Lib.hid (bstep HBX.out (bbV Wc (.cells #[.string (Str key), .int .i64 t] 53)))
            generalize World.alloc Wc (.cells _ _) = Wn at HX HBX HL6  hHeld ⊢
            generalize Wc.heap.size = m6 at HL6  ⊢
            rename World => Wc
            refine wpAnyH_ready (rs := [0]) (by kernel_rfl) (by simp) (AllReadyH.cons (o := { dst := some 29, op := _, type := _, pos := _, after := _, guard := _ }) rfl (fun K hK => ?_) AllReadyH.nil)
            go_simp
            refine hK.out _ _ (HRO.out _ (HX.out.alloc _)) (fun hHeld => ?_)
            clear hK K
            try simp only [Act.put, List.setIfInBounds_toArray, List.set_cons_zero, List.set_cons_succ]
            have HOW := Lib.hid (show OwnV KE 53 (Wc.alloc (.cells #[] 53)) (X + 1) (.slice (some ⟨Wc.heap.size, 0, none⟩) 0 0) ([] : List EN) from World.ownsRow_lit Wc #[] 0 HX.out.lt (by unfold maxLen; omega) (by simp))
            have HM := Lib.hid (show m6 ≠ Wc.heap.size from by have := HL6.out.lt; omega)
            replace HX := Lib.hid (HX.out.below (bbV Wc (.cells #[] 53)) HX.out.lt)
            replace HBX := Lib.hid (bstep HBX.out (bbV Wc (.cells #[] 53)))
            replace HL6 := Lib.hid (HL6.out.below (bbV Wc (.cells #[] 53)) HL6.out.lt)
            generalize World.alloc Wc (.cells #[] _) = Wn at HX HBX HOW HL6 hHeld ⊢
            generalize Wc.heap.size = g0 at HOW HM ⊢
            rename World => Wc
            refine wpAnyH_ready (rs := [4]) (by kernel_rfl) (by simp) (AllReadyH.cons (o := { dst := some 33, op := _, type := _, pos := _, after := _, guard := _ }) rfl (fun K hK => ?_) AllReadyH.nil)
            refine stepV rfl ?_
            refine wp_appE _ _ rfl (X + 1) _ ([]) (m.take k) _ rfl HOW.out rfl (HST.out _ HBX.out) (by have := HLL.out; have := HN.out; rw [List.length_take]; simp only [List.length_nil]; omega) HX.out.lt ?_
            intro v' w' hown' hgrow'
            have hge := OwnV.ge HOW.out
            have hbg := bgrown HBX.out hgrow' (fun k hk => by have := (hge k hk).1; have := HXE.out; omega)
            have hxg := HX.out.grown hgrow' (fun e => by have := (hge _ e.symm).1; omega)
            refine hK.out _ _ (HRO.out _ hxg) (fun hHeld => ?_)
            clear hK K
            try simp only [Act.put, List.setIfInBounds_toArray, List.set_cons_zero, List.set_cons_succ]
            replace HX := Lib.hid hxg
            replace HL6 := Lib.hid (HL6.out.grown hgrow' (fun e => HM.out (by have e2 : some m6 = some g0 := e; cases e2; rfl)))
            replace HBX := Lib.hid hbg
            rw [List.nil_append] at hown'
            have HOW := Lib.hid hown'
            clear hown' hgrow' hbg hge hxg
            rename World => Wc
            refine wpAnyH_ready (rs := [7]) (by kernel_rfl) (by simp) (AllReadyH.cons (o := { dst := some 36, op := _, type := _, pos := _, after := _, guard := _ }) rfl (fun K hK => ?_) AllReadyH.nil)
            refine stepV rfl ?_
            refine wp_appE _ _ rfl (X + 1) _ (m.take k) ([(key, t)]) _ rfl HOW.out rfl (src_oneV HL6.out) (by have := HLL.out; have := HN.out; rw [List.length_take]; simp only [List.length_cons, List.length_nil]; omega) HX.out.lt ?_
            intro v' w' hown' hgrow'
            have hge := OwnV.ge HOW.out
            have hbg := bgrown HBX.out hgrow' (fun k hk => by have := (hge k hk).1; have := HXE.out; omega)
            have hxg := HX.out.grown hgrow' (fun e => by have := (hge _ e.symm).1; omega)
            refine hK.out _ _ (HRO.out _ hxg) (fun hHeld => ?_)
            clear hK K
            try simp only [Act.put, List.setIfInBounds_toArray, List.set_cons_zero, List.set_cons_succ]
            replace HX := Lib.hid hxg
            replace HBX := Lib.hid hbg
            clear HL6
            have HOW := Lib.hid hown'
            clear hown' hgrow' hbg hge hxg
            rename World => Wc
            refine wpAnyH_ready (rs := [11]) (by kernel_rfl) (by simp) (AllReadyH.cons (o := { dst := some 40, op := _, type := _, pos := _, after := _, guard := _ }) rfl (fun K hK => ?_) AllReadyH.nil)
            refine stepV rfl ?_
            refine wp_appE _ _ rfl (X + 1) _ (m.take k ++ [(key, t)]) (m.drop k) _ rfl HOW.out rfl (HSD.out _ HBX.out) (by have := HLL.out; have := HN.out; rw [List.length_append, List.length_take, List.length_drop]; simp only [List.length_cons, List.length_nil]; omega) HX.out.lt ?_
            intro v' w' hown' hgrow'
            have hge := OwnV.ge HOW.out
            have hbg := bgrown HBX.out hgrow' (fun k hk => by have := (hge k hk).1; have := HXE.out; omega)
            have hxg := HX.out.grown hgrow' (fun e => by have := (hge _ e.symm).1; omega)
            refine hK.out _ _ (HRO.out _ hxg) (fun hHeld => ?_)
            clear hK K
            try simp only [Act.put, List.setIfInBounds_toArray, List.set_cons_zero, List.set_cons_succ]
            replace HX := Lib.hid hxg
            replace HBX := Lib.hid hbg
            skip
            have HOW := Lib.hid hown'
            clear hown' hgrow' hbg hge hxg
            rename World => Wc
            refine wpAnyH_take (i := 12) (oi := { dst := some 6, op := _, type := _, pos := _, after := _, guard := _ }) (v := ?v210) rfl (by kernel_rfl) (by kernel_rfl) (by kernel_rfl) (fun _ _ _ h => h) (Or.inl ⟨by rfl, ?y210⟩) (by assumption) ?r210
            case y210 => (intro w hSw; obtain ⟨s1, s2⟩ := hSw; go_simp; try with_reducible rfl)
            try simp only [Act.put, List.setIfInBounds_toArray, List.set_cons_zero, List.set_cons_succ]
            refine wpAnyH_done (by kernel_rfl) ?_ _
            go_wp2_with fail
            go_ret
            exact ⟨_, rfl, bstep HB1.out HBX.out, by rw [HADD.out]; exact OwnV.mono (by simpa using HOW.out) (by have := HXE.out; have := HB1.out.size; omega)⟩
      · have hk1 : ¬ (k : Int) < (n : Int) := by omega
        have hkn : k = n := by omega
        have HADD := Lib.hid (HAD.out k (by have := HN.out; omega) HT.out (fun h => absurd h (by have := HN.out; omega)))
        go_upto_region 2 with (fail)
        have hne : Nonempty (InS S) := ⟨⟨_, HS0.out⟩⟩
        refine wp_region_inS S (by kernel_rfl) (by kernel_rfl) HS0.out ?_
        repeat (go_big_quiet_step (fail))
        refine wpQuiet_nil ?_
        rintro _ ⟨⟨W2, hS2⟩, rfl⟩
        have HS2 := Lib.hid (HSE.out _ hS2)
        clear hS2 hne
        have HX := Lib.hid HS2.out.1
        have HBX := Lib.hid HS2.out.2
        have HST : Hid (∀ W, Below w1.heap.size w1 W → Src KE W (.slice (some ⟨g, 0, none⟩) k cap) (m.take k)) := Lib.hid fun W h => src_takeV (Kind.At.below RAX.out hgl h) (by have := HN.out; omega)
        have HSD : Hid (∀ W, Below w1.heap.size w1 W → Src KE W (.slice (if cap = k then some ⟨g, 0, none⟩ else some ⟨g, k * 2, none⟩) (n - k) (cap - k)) (m.drop k)) := Lib.hid fun W h => by
          have := src_dropV (cap := cap) (c := cap - k) (Kind.At.below RAX.out hgl h) HN.out hk HCAP.out.1
          rw [Nat.zero_add] at this
          exact this
        obtain ⟨q40, hif⟩ : ∃ q, (if cap = k then some (⟨g, 0, none⟩ : Addr) else some ⟨g, k * 2, none⟩) = q := ⟨_, rfl⟩
        rw [hif] at HSD
        clear HS2 HS0 RA hgl hkn
        rename World => Wc
        have hkc : k ≤ cap := by have := HCAP.out.1; omega
        have hnc : n ≤ cap := HCAP.out.1
        go_upto_region 4 with (fail)
        refine wp_region_held_drew (S := (fun W => W.cell? ⟨X, 0, none⟩ = some (.string (Str key)) ∧ W.cell? ⟨X, 1, none⟩ = some (.int .i64 t))) (by kernel_rfl) (HRO.out Wc.drew HX.out) (fun hHeld => ?_)
        have HXd := Lib.hid (show ObjAt Wc.drew X #[.string (Str key), .int .i64 t] 53 from HX.out)
        have HBd := Lib.hid (bdrewN HBX.out 1)
        generalize hWd : World.drew Wc = Wd at HXd hHeld ⊢
        replace HBX := Lib.hid (show Below w1.heap.size w1 Wd from hWd ▸ HBd.out)
        replace HX := HXd
        clear HXd HBd hWd
        rename World => Wc
        refine wpAnyH_take (i := 1) (oi := { dst := some 30, op := _, type := _, pos := _, after := _, guard := _ }) (v := ?v301) rfl (by kernel_rfl) (by kernel_rfl) (by kernel_rfl) (fun _ _ _ h => h) (Or.inl ⟨by rfl, ?y301⟩) (by assumption) ?r301
        case y301 => (intro w hSw; obtain ⟨s1, s2⟩ := hSw; go_simp; try with_reducible rfl)
        try simp only [Act.put, List.setIfInBounds_toArray, List.set_cons_zero, List.set_cons_succ]
        refine wpAnyH_take (i := 2) (oi := { dst := some 31, op := _, type := _, pos := _, after := _, guard := _ }) (v := ?v302) rfl (by kernel_rfl) (by kernel_rfl) (by kernel_rfl) (fun _ _ _ h => h) (Or.inl ⟨by rfl, ?y302⟩) (by assumption) ?r302
        case y302 => (intro w hSw; obtain ⟨s1, s2⟩ := hSw; go_simp; try with_reducible rfl)
        try simp only [Act.put, List.setIfInBounds_toArray, List.set_cons_zero, List.set_cons_succ]
        refine wpAnyH_take (i := 3) (oi := { dst := some 32, op := _, type := _, pos := _, after := _, guard := _ }) (v := ?v303) rfl (by kernel_rfl) (by kernel_rfl) (by kernel_rfl) (fun _ _ _ h => h) (Or.inl ⟨by rfl, ?y303⟩) (by assumption) ?r303
        case y303 => (intro w hSw; obtain ⟨s1, s2⟩ := hSw; go_simp; try with_reducible rfl)
        try simp only [Act.put, List.setIfInBounds_toArray, List.set_cons_zero, List.set_cons_succ]
        refine wpAnyH_take (i := 5) (oi := { dst := some 34, op := _, type := _, pos := _, after := _, guard := _ }) (v := ?v304) rfl (by kernel_rfl) (by kernel_rfl) (by kernel_rfl) (fun _ _ _ h => h) (Or.inl ⟨by rfl, ?y304⟩) (by assumption) ?r304
        case y304 => (intro w hSw; obtain ⟨s1, s2⟩ := hSw; go_simp; try with_reducible rfl)
        try simp only [Act.put, List.setIfInBounds_toArray, List.set_cons_zero, List.set_cons_succ]
        refine wpAnyH_take (i := 8) (oi := { dst := some 37, op := _, type := _, pos := _, after := _, guard := _ }) (v := ?v305) rfl (by kernel_rfl) (by kernel_rfl) (by kernel_rfl) (fun _ _ _ h => h) (Or.inl ⟨by rfl, ?y305⟩) (by assumption) ?r305
        case y305 => (intro w hSw; obtain ⟨s1, s2⟩ := hSw; go_simp; try with_reducible rfl)
        try simp only [Act.put, List.setIfInBounds_toArray, List.set_cons_zero, List.set_cons_succ]
        refine wpAnyH_take (i := 9) (oi := { dst := some 38, op := _, type := _, pos := _, after := _, guard := _ }) (v := ?v306) rfl (by kernel_rfl) (by kernel_rfl) (by kernel_rfl) (fun _ _ _ h => h) (Or.inl ⟨by rfl, ?y306⟩) (by assumption) ?r306
        case y306 => (intro w hSw; obtain ⟨s1, s2⟩ := hSw; go_simp; try with_reducible rfl)
        try simp only [Act.put, List.setIfInBounds_toArray, List.set_cons_zero, List.set_cons_succ]
        refine wpAnyH_take (i := 10) (oi := { dst := some 39, op := _, type := _, pos := _, after := _, guard := _ }) (v := ?v307) rfl (by kernel_rfl) (by kernel_rfl) (by kernel_rfl) (fun _ _ _ h => h) (Or.inl ⟨by rfl, ?y307⟩) (by assumption) ?r307
        case y307 => (intro w hSw; obtain ⟨s1, s2⟩ := hSw; go_simp; try with_reducible rfl)
        try simp only [Act.put, List.setIfInBounds_toArray, List.set_cons_zero, List.set_cons_succ]
        refine wpAnyH_ready (rs := [0, 6]) (by kernel_rfl) (by simp) (AllReadyH.cons (o := { dst := some 29, op := _, type := _, pos := _, after := _, guard := _ }) rfl (fun K hK => ?_) (AllReadyH.cons (o := { dst := some 35, op := _, type := _, pos := _, after := _, guard := _ }) rfl (fun K hK => ?_) AllReadyH.nil))
        · go_simp
          refine hK.out _ _ (HRO.out _ (HX.out.alloc _)) (fun hHeld => ?_)
          clear hK K
          try simp only [Act.put, List.setIfInBounds_toArray, List.set_cons_zero, List.set_cons_succ]
          have HOW := Lib.hid (show OwnV KE 53 (Wc.alloc (.cells #[] 53)) (X + 1) (.slice (some ⟨Wc.heap.size, 0, none⟩) 0 0) ([] : List EN) from World.ownsRow_lit Wc #[] 0 HX.out.lt (by unfold maxLen; omega) (by simp))
          replace HX := Lib.hid (HX.out.below (bbV Wc (.cells #[] 53)) HX.out.lt)
          replace HBX := Lib.hid (bstep HBX.out (bbV Wc (.cells #[] 53)))
          generalize World.alloc Wc (.cells #[] _) = Wn at HX HBX HOW  hHeld ⊢
          generalize Wc.heap.size = g0 at HOW  ⊢
          rename World => Wc
          refine wpAnyH_ready (rs := [4, 6]) (by kernel_rfl) (by simp) (AllReadyH.cons (o := { dst := some 33, op := _, type := _, pos := _, after := _, guard := _ }) rfl (fun K hK => ?_) (AllReadyH.cons (o := { dst := some 35, op := _, type := _, pos := _, after := _, guard := _ }) rfl (fun K hK => ?_) AllReadyH.nil))
          · refine stepV rfl ?_
            refine wp_appE _ _ rfl (X + 1) _ ([]) (m.take k) _ rfl HOW.out rfl (HST.out _ HBX.out) (by have := HLL.out; have := HN.out; rw [List.length_take]; simp only [List.length_nil]; omega) HX.out.lt ?_
            intro v' w' hown' hgrow'
            have hge := OwnV.ge HOW.out
            have hbg := bgrown HBX.out hgrow' (fun k hk => by have := (hge k hk).1; have := HXE.out; omega)
            have hxg := HX.out.grown hgrow' (fun e => by have := (hge _ e.symm).1; omega)
            refine hK.out _ _ (HRO.out _ hxg) (fun hHeld => ?_)
            clear hK K
            try simp only [Act.put, List.setIfInBounds_toArray, List.set_cons_zero, List.set_cons_succ]
            replace HX := Lib.hid hxg
            replace HBX := Lib.hid hbg
            rw [List.nil_append] at hown'
            have HOW := Lib.hid hown'
            clear hown' hgrow' hbg hge hxg
            rename World => Wc
            refine wpAnyH_ready (rs := [6]) (by kernel_rfl) (by simp) (AllReadyH.cons (o := { dst := some 35, op := _, type := _, pos := _, after := _, guard := _ }) rfl (fun K hK => ?_) AllReadyH.nil)
            go_simp
            refine hK.out _ _ (HRO.out _ (HX.out.alloc _)) (fun hHeld => ?_)
            clear hK K
            try simp only [Act.put, List.setIfInBounds_toArray, List.set_cons_zero, List.set_cons_succ]
            have HL6 := Lib.hid (ObjAt.made Wc #[.string (Str key), .int .i64 t] 53)
            replace HX := Lib.hid (HX.out.below (bbV Wc (.cells #[.string (Str key), .int .i64 t] 53)) HX.out.lt)
            replace HBX := Lib.hid (bstep HBX.out (bbV Wc (.cells #[.string (Str key), .int .i64 t] 53)))
            replace HOW := Lib.hid (OwnV.below HOW.out (bbV Wc (.cells #[.string (Str key), .int .i64 t] 53)))
            generalize World.alloc Wc (.cells _ _) = Wn at HX HBX HL6 HOW hHeld ⊢
            generalize Wc.heap.size = m6 at HL6  ⊢
            rename World => Wc
            refine wpAnyH_ready (rs := [7]) (by kernel_rfl) (by simp) (AllReadyH.cons (o := { dst := some 36, op := _, type := _, pos := _, after := _, guard := _ }) rfl (fun K hK => ?_) AllReadyH.nil)
            refine stepV rfl ?_
            refine wp_appE _ _ rfl (X + 1) _ (m.take k) ([(key, t)]) _ rfl HOW.out rfl (src_oneV HL6.out) (by have := HLL.out; have := HN.out; rw [List.length_take]; simp only [List.length_cons, List.length_nil]; omega) HX.out.lt ?_
            intro v' w' hown' hgrow'
            have hge := OwnV.ge HOW.out
            have hbg := bgrown HBX.out hgrow' (fun k hk => by have := (hge k hk).1; have := HXE.out; omega)
            have hxg := HX.out.grown hgrow' (fun e => by have := (hge _ e.symm).1; omega)
            refine hK.out _ _ (HRO.out _ hxg) (fun hHeld => ?_)
            clear hK K
            try simp only [Act.put, List.setIfInBounds_toArray, List.set_cons_zero, List.set_cons_succ]
            replace HX := Lib.hid hxg
            replace HBX := Lib.hid hbg
            clear HL6
            have HOW := Lib.hid hown'
            clear hown' hgrow' hbg hge hxg
            rename World => Wc
            refine wpAnyH_ready (rs := [11]) (by kernel_rfl) (by simp) (AllReadyH.cons (o := { dst := some 40, op := _, type := _, pos := _, after := _, guard := _ }) rfl (fun K hK => ?_) AllReadyH.nil)
            refine stepV rfl ?_
            refine wp_appE _ _ rfl (X + 1) _ (m.take k ++ [(key, t)]) (m.drop k) _ rfl HOW.out rfl (HSD.out _ HBX.out) (by have := HLL.out; have := HN.out; rw [List.length_append, List.length_take, List.length_drop]; simp only [List.length_cons, List.length_nil]; omega) HX.out.lt ?_
            intro v' w' hown' hgrow'
            have hge := OwnV.ge HOW.out
            have hbg := bgrown HBX.out hgrow' (fun k hk => by have := (hge k hk).1; have := HXE.out; omega)
            have hxg := HX.out.grown hgrow' (fun e => by have := (hge _ e.symm).1; omega)
            refine hK.out _ _ (HRO.out _ hxg) (fun hHeld => ?_)
            clear hK K
            try simp only [Act.put, List.setIfInBounds_toArray, List.set_cons_zero, List.set_cons_succ]
            replace HX := Lib.hid hxg
            replace HBX := Lib.hid hbg
            skip
            have HOW := Lib.hid hown'
            clear hown' hgrow' hbg hge hxg
            rename World => Wc
            refine wpAnyH_take (i := 12) (oi := { dst := some 6, op := _, type := _, pos := _, after := _, guard := _ }) (v := ?v308) rfl (by kernel_rfl) (by kernel_rfl) (by kernel_rfl) (fun _ _ _ h => h) (Or.inl ⟨by rfl, ?y308⟩) (by assumption) ?r308
            case y308 => (intro w hSw; obtain ⟨s1, s2⟩ := hSw; go_simp; try with_reducible rfl)
            try simp only [Act.put, List.setIfInBounds_toArray, List.set_cons_zero, List.set_cons_succ]
            refine wpAnyH_done (by kernel_rfl) ?_ _
            go_wp2_with fail
            go_ret
            exact ⟨_, rfl, bstep HB1.out HBX.out, by rw [HADD.out]; exact OwnV.mono (by simpa using HOW.out) (by have := HXE.out; have := HB1.out.size; omega)⟩
          · go_simp
            refine hK.out _ _ (HRO.out _ (HX.out.alloc _)) (fun hHeld => ?_)
            clear hK K
            try simp only [Act.put, List.setIfInBounds_toArray, List.set_cons_zero, List.set_cons_succ]
            have HL6 := Lib.hid (ObjAt.made Wc #[.string (Str key), .int .i64 t] 53)
            have HM := Lib.hid (show Wc.heap.size ≠ g0 from by have := (OwnV.ge HOW.out g0 rfl).2; omega)
            replace HX := Lib.hid (HX.out.below (bbV Wc (.cells #[.string (Str key), .int .i64 t] 53)) HX.out.lt)
            replace HBX := Lib.hid (bstep HBX.out (bbV Wc (.cells #[.string (Str key), .int .i64 t] 53)))
            replace HOW := Lib.hid (OwnV.below HOW.out (bbV Wc (.cells #[.string (Str key), .int .i64 t] 53)))
            generalize World.alloc Wc (.cells _ _) = Wn at HX HBX HL6 HOW hHeld ⊢
            generalize Wc.heap.size = m6 at HL6 HM ⊢
            rename World => Wc
            refine wpAnyH_ready (rs := [4]) (by kernel_rfl) (by simp) (AllReadyH.cons (o := { dst := some 33, op := _, type := _, pos := _, after := _, guard := _ }) rfl (fun K hK => ?_) AllReadyH.nil)
            refine stepV rfl ?_
            refine wp_appE _ _ rfl (X + 1) _ ([]) (m.take k) _ rfl HOW.out rfl (HST.out _ HBX.out) (by have := HLL.out; have := HN.out; rw [List.length_take]; simp only [List.length_nil]; omega) HX.out.lt ?_
            intro v' w' hown' hgrow'
            have hge := OwnV.ge HOW.out
            have hbg := bgrown HBX.out hgrow' (fun k hk => by have := (hge k hk).1; have := HXE.out; omega)
            have hxg := HX.out.grown hgrow' (fun e => by have := (hge _ e.symm).1; omega)
            refine hK.out _ _ (HRO.out _ hxg) (fun hHeld => ?_)
            clear hK K
            try simp only [Act.put, List.setIfInBounds_toArray, List.set_cons_zero, List.set_cons_succ]
            replace HX := Lib.hid hxg
            replace HL6 := Lib.hid (HL6.out.grown hgrow' (fun e => HM.out (by have e2 : some m6 = some g0 := e; cases e2; rfl)))
            replace HBX := Lib.hid hbg
            rw [List.nil_append] at hown'
            have HOW := Lib.hid hown'
            clear hown' hgrow' hbg hge hxg
            rename World => Wc
            refine wpAnyH_ready (rs := [7]) (by kernel_rfl) (by simp) (AllReadyH.cons (o := { dst := some 36, op := _, type := _, pos := _, after := _, guard := _ }) rfl (fun K hK => ?_) AllReadyH.nil)
            refine stepV rfl ?_
            refine wp_appE _ _ rfl (X + 1) _ (m.take k) ([(key, t)]) _ rfl HOW.out rfl (src_oneV HL6.out) (by have := HLL.out; have := HN.out; rw [List.length_take]; simp only [List.length_cons, List.length_nil]; omega) HX.out.lt ?_
            intro v' w' hown' hgrow'
            have hge := OwnV.ge HOW.out
            have hbg := bgrown HBX.out hgrow' (fun k hk => by have := (hge k hk).1; have := HXE.out; omega)
            have hxg := HX.out.grown hgrow' (fun e => by have := (hge _ e.symm).1; omega)
            refine hK.out _ _ (HRO.out _ hxg) (fun hHeld => ?_)
            clear hK K
            try simp only [Act.put, List.setIfInBounds_toArray, List.set_cons_zero, List.set_cons_succ]
            replace HX := Lib.hid hxg
            replace HBX := Lib.hid hbg
            clear HL6
            have HOW := Lib.hid hown'
            clear hown' hgrow' hbg hge hxg
            rename World => Wc
            refine wpAnyH_ready (rs := [11]) (by kernel_rfl) (by simp) (AllReadyH.cons (o := { dst := some 40, op := _, type := _, pos := _, after := _, guard := _ }) rfl (fun K hK => ?_) AllReadyH.nil)
            refine stepV rfl ?_
            refine wp_appE _ _ rfl (X + 1) _ (m.take k ++ [(key, t)]) (m.drop k) _ rfl HOW.out rfl (HSD.out _ HBX.out) (by have := HLL.out; have := HN.out; rw [List.length_append, List.length_take, List.length_drop]; simp only [List.length_cons, List.length_nil]; omega) HX.out.lt ?_
            intro v' w' hown' hgrow'
            have hge := OwnV.ge HOW.out
            have hbg := bgrown HBX.out hgrow' (fun k hk => by have := (hge k hk).1; have := HXE.out; omega)
            have hxg := HX.out.grown hgrow' (fun e => by have := (hge _ e.symm).1; omega)
            refine hK.out _ _ (HRO.out _ hxg) (fun hHeld => ?_)
            clear hK K
            try simp only [Act.put, List.setIfInBounds_toArray, List.set_cons_zero, List.set_cons_succ]
            replace HX := Lib.hid hxg
            replace HBX := Lib.hid hbg
            skip
            have HOW := Lib.hid hown'
            clear hown' hgrow' hbg hge hxg
            rename World => Wc
            refine wpAnyH_take (i := 12) (oi := { dst := some 6, op := _, type := _, pos := _, after := _, guard := _ }) (v := ?v309) rfl (by kernel_rfl) (by kernel_rfl) (by kernel_rfl) (fun _ _ _ h => h) (Or.inl ⟨by rfl, ?y309⟩) (by assumption) ?r309
            case y309 => (intro w hSw; obtain ⟨s1, s2⟩ := hSw; go_simp; try with_reducible rfl)
            try simp only [Act.put, List.setIfInBounds_toArray, List.set_cons_zero, List.set_cons_succ]
            refine wpAnyH_done (by kernel_rfl) ?_ _
            go_wp2_with fail
            go_ret
            exact ⟨_, rfl, bstep HB1.out HBX.out, by rw [HADD.out]; exact OwnV.mono (by simpa using HOW.out) (by have := HXE.out; have := HB1.out.size; omega)⟩
        · go_simp
          refine hK.out _ _ (HRO.out _ (HX.out.alloc _)) (fun hHeld => ?_)
          clear hK K
          try simp only [Act.put, List.setIfInBounds_toArray, List.set_cons_zero, List.set_cons_succ]
          have HL6 := Lib.hid (ObjAt.made Wc #[.string (Str key), .int .i64 t] 53)
          replace HX := Lib.hid (HX.out.below (bbV Wc (.cells #[.string (Str key), .int .i64 t] 53)) HX.out.lt)
          replace HBX := Lib.hid (bstep HBX.out (bbV Wc (.cells #[.string (Str key), .int .i64 t] 53)))
          generalize World.alloc Wc (.cells _ _) = Wn at HX HBX HL6  hHeld ⊢
          generalize Wc.heap.size = m6 at HL6  ⊢
          rename World => Wc
          refine wpAnyH_ready (rs := [0]) (by kernel_rfl) (by simp) (AllReadyH.cons (o := { dst := some 29, op := _, type := _, pos := _, after := _, guard := _ }) rfl (fun K hK => ?_) AllReadyH.nil)
          go_simp
          refine hK.out _ _ (HRO.out _ (HX.out.alloc _)) (fun hHeld => ?_)
          clear hK K
          try simp only [Act.put, List.setIfInBounds_toArray, List.set_cons_zero, List.set_cons_succ]
          have HOW := Lib.hid (show OwnV KE 53 (Wc.alloc (.cells #[] 53)) (X + 1) (.slice (some ⟨Wc.heap.size, 0, none⟩) 0 0) ([] : List EN) from World.ownsRow_lit Wc #[] 0 HX.out.lt (by unfold maxLen; omega) (by simp))
          have HM := Lib.hid (show m6 ≠ Wc.heap.size from by have := HL6.out.lt; omega)
          replace HX := Lib.hid (HX.out.below (bbV Wc (.cells #[] 53)) HX.out.lt)
          replace HBX := Lib.hid (bstep HBX.out (bbV Wc (.cells #[] 53)))
          replace HL6 := Lib.hid (HL6.out.below (bbV Wc (.cells #[] 53)) HL6.out.lt)
          generalize World.alloc Wc (.cells #[] _) = Wn at HX HBX HOW HL6 hHeld ⊢
          generalize Wc.heap.size = g0 at HOW HM ⊢
          rename World => Wc
          refine wpAnyH_ready (rs := [4]) (by kernel_rfl) (by simp) (AllReadyH.cons (o := { dst := some 33, op := _, type := _, pos := _, after := _, guard := _ }) rfl (fun K hK => ?_) AllReadyH.nil)
          refine stepV rfl ?_
          refine wp_appE _ _ rfl (X + 1) _ ([]) (m.take k) _ rfl HOW.out rfl (HST.out _ HBX.out) (by have := HLL.out; have := HN.out; rw [List.length_take]; simp only [List.length_nil]; omega) HX.out.lt ?_
          intro v' w' hown' hgrow'
          have hge := OwnV.ge HOW.out
          have hbg := bgrown HBX.out hgrow' (fun k hk => by have := (hge k hk).1; have := HXE.out; omega)
          have hxg := HX.out.grown hgrow' (fun e => by have := (hge _ e.symm).1; omega)
          refine hK.out _ _ (HRO.out _ hxg) (fun hHeld => ?_)
          clear hK K
          try simp only [Act.put, List.setIfInBounds_toArray, List.set_cons_zero, List.set_cons_succ]
          replace HX := Lib.hid hxg
          replace HL6 := Lib.hid (HL6.out.grown hgrow' (fun e => HM.out (by have e2 : some m6 = some g0 := e; cases e2; rfl)))
          replace HBX := Lib.hid hbg
          rw [List.nil_append] at hown'
          have HOW := Lib.hid hown'
          clear hown' hgrow' hbg hge hxg
          rename World => Wc
          refine wpAnyH_ready (rs := [7]) (by kernel_rfl) (by simp) (AllReadyH.cons (o := { dst := some 36, op := _, type := _, pos := _, after := _, guard := _ }) rfl (fun K hK => ?_) AllReadyH.nil)
          refine stepV rfl ?_
          refine wp_appE _ _ rfl (X + 1) _ (m.take k) ([(key, t)]) _ rfl HOW.out rfl (src_oneV HL6.out) (by have := HLL.out; have := HN.out; rw [List.length_take]; simp only [List.length_cons, List.length_nil]; omega) HX.out.lt ?_
          intro v' w' hown' hgrow'
          have hge := OwnV.ge HOW.out
          have hbg := bgrown HBX.out hgrow' (fun k hk => by have := (hge k hk).1; have := HXE.out; omega)
          have hxg := HX.out.grown hgrow' (fun e => by have := (hge _ e.symm).1; omega)
          refine hK.out _ _ (HRO.out _ hxg) (fun hHeld => ?_)
          clear hK K
          try simp only [Act.put, List.setIfInBounds_toArray, List.set_cons_zero, List.set_cons_succ]
          replace HX := Lib.hid hxg
          replace HBX := Lib.hid hbg
          clear HL6
          have HOW := Lib.hid hown'
          clear hown' hgrow' hbg hge hxg
          rename World => Wc
          refine wpAnyH_ready (rs := [11]) (by kernel_rfl) (by simp) (AllReadyH.cons (o := { dst := some 40, op := _, type := _, pos := _, after := _, guard := _ }) rfl (fun K hK => ?_) AllReadyH.nil)
          refine stepV rfl ?_
          refine wp_appE _ _ rfl (X + 1) _ (m.take k ++ [(key, t)]) (m.drop k) _ rfl HOW.out rfl (HSD.out _ HBX.out) (by have := HLL.out; have := HN.out; rw [List.length_append, List.length_take, List.length_drop]; simp only [List.length_cons, List.length_nil]; omega) HX.out.lt ?_
          intro v' w' hown' hgrow'
          have hge := OwnV.ge HOW.out
          have hbg := bgrown HBX.out hgrow' (fun k hk => by have := (hge k hk).1; have := HXE.out; omega)
          have hxg := HX.out.grown hgrow' (fun e => by have := (hge _ e.symm).1; omega)
          refine hK.out _ _ (HRO.out _ hxg) (fun hHeld => ?_)
          clear hK K
          try simp only [Act.put, List.setIfInBounds_toArray, List.set_cons_zero, List.set_cons_succ]
          replace HX := Lib.hid hxg
          replace HBX := Lib.hid hbg
          skip
          have HOW := Lib.hid hown'
          clear hown' hgrow' hbg hge hxg
          rename World => Wc
          refine wpAnyH_take (i := 12) (oi := { dst := some 6, op := _, type := _, pos := _, after := _, guard := _ }) (v := ?v310) rfl (by kernel_rfl) (by kernel_rfl) (by kernel_rfl) (fun _ _ _ h => h) (Or.inl ⟨by rfl, ?y310⟩) (by assumption) ?r310
          case y310 => (intro w hSw; obtain ⟨s1, s2⟩ := hSw; go_simp; try with_reducible rfl)
          try simp only [Act.put, List.setIfInBounds_toArray, List.set_cons_zero, List.set_cons_succ]
          refine wpAnyH_done (by kernel_rfl) ?_ _
          go_wp2_with fail
          go_ret
          exact ⟨_, rfl, bstep HB1.out HBX.out, by rw [HADD.out]; exact OwnV.mono (by simpa using HOW.out) (by have := HXE.out; have := HB1.out.size; omega)⟩
end Go.Proofs.Ytiegeejbnplhdaa
