/-
  The contracts of igmp's writer: num, addrs, query, report.
-/
import Derived.Test.YtchbkamjmkfikaaMg25
import Derived.Test.YtchbkamjmkfikaaIgA
import Derived.Test.YtchbkamjmkfikaaCodP
namespace Go.Proofs.Ytchbkamjmkfikaa
open Go.RowKit
set_option linter.unusedVariables false
set_option linter.unusedSimpArgs false
attribute [local go_sem ↓] ld_addr st_addr bld_addr ld_rec st_rec
attribute [local go_sem] ldr_addr str_addr ldr_rec str_rec

theorem clamp8 (k : Nat) (h : k ≤ 8) : clampN (k : Int) 8 = k := by unfold clampN; split <;> omega
theorem putw_any (n : Nat) (hn : n < 18446744073709551616) (k : Nat) (hk : k ≤ 8) (w : World) : Calls Try.prog 43 #[.int .u64 n, .int .i64 k] w fun e w' => e = .returned (.string (Str (putL n k))) ∧ Below w.heap.size w w' := by
  have := put_any n hn k w
  rw [clamp8 k hk] at this
  exact this
set_option maxRecDepth 100000 in
set_option maxHeartbeats 2000000 in
theorem wnum_any (base b : Nat) (l : List UInt8) (n k : Nat) (w : World) (hn : n ≤ 1000000000) (hk : k ≤ 8) (h : WB base w b l) (hl : l.length ≤ 100000000) (hbase : base ≤ w.heap.size) :
    Calls Try.prog 35 #[.pointer (some ⟨b, 0, none⟩), .int .i64 n, .int .i64 k] w fun x w' => x = .returned (.tuple #[]) ∧ WB base w' b (l ++ putL n k) ∧ WK base b w w' := by
  have HP := Lib.hid (fun W => putw_any n (by omega) k hk W)
  have HL := Lib.hid (show l.length + (putL n k).length ≤ 1000000000 by rw [putL_length]; omega)
  have hw : IntKind.u64.wrap (n : Int) = (n : Int) := by simp only [IntKind.wrap_u64]; omega
  go_enter Try.func35, Try.ntmps35
  refine wp_region_held_drew (S := fun _ => True) (by kernel_rfl) (trivial) (fun hHeld => ?_)
  have Hq := Lib.hid (show WB base w.drew b l from h)
  have Kq := Lib.hid (show WK base b w w.drew from ⟨rfl, rfl, rfl, Nat.le_refl _, fun _ _ _ _ => rfl⟩)
  generalize World.drew _ = Wq at Hq Kq hHeld ⊢
  clear h
  refine wpAnyH_take (i := 0) (oi := { dst := some 6, op := _, type := _, pos := _, after := _, guard := _ }) (v := ?hv1) rfl (by kernel_rfl) (by kernel_rfl) (by kernel_rfl) (fun _ _ _ h => h) (Or.inl ⟨by rfl, ?hy1⟩) (by assumption) ?hr1
  case hy1 => (intro w hSw; go_simp; try with_reducible rfl)
  try simp only [Act.put, List.setIfInBounds_toArray, List.set_cons_zero, List.set_cons_succ]
  refine wpAnyH_take (i := 1) (oi := { dst := some 7, op := _, type := _, pos := _, after := _, guard := _ }) (v := ?hv2) rfl (by kernel_rfl) (by kernel_rfl) (by kernel_rfl) (fun _ _ _ h => h) (Or.inl ⟨by rfl, ?hy2⟩) (by assumption) ?hr2
  case hy2 => (intro w hSw; go_simp; try with_reducible rfl)
  try simp only [Act.put, List.setIfInBounds_toArray, List.set_cons_zero, List.set_cons_succ]
  refine wpAnyH_take (i := 2) (oi := { dst := some 8, op := _, type := _, pos := _, after := _, guard := _ }) (v := ?hv3) rfl (by kernel_rfl) (by kernel_rfl) (by kernel_rfl) (fun _ _ _ h => h) (Or.inl ⟨by rfl, ?hy3⟩) (by assumption) ?hr3
  case hy3 => (intro w hSw; go_simp; try with_reducible rfl)
  try simp only [Act.put, List.setIfInBounds_toArray, List.set_cons_zero, List.set_cons_succ]
  refine wpAnyH_take (i := 3) (oi := { dst := some 9, op := _, type := _, pos := _, after := _, guard := _ }) (v := ?hv4) rfl (by kernel_rfl) (by kernel_rfl) (by kernel_rfl) (fun _ _ _ h => h) (Or.inl ⟨by rfl, ?hy4⟩) (by assumption) ?hr4
  case hy4 => (intro w hSw; go_simp; try with_reducible rfl)
  try simp only [Act.put, List.setIfInBounds_toArray, List.set_cons_zero, List.set_cons_succ]
  refine wpAnyH_take (i := 4) (oi := { dst := some 10, op := _, type := _, pos := _, after := _, guard := _ }) (v := ?hv5) rfl (by kernel_rfl) (by kernel_rfl) (by kernel_rfl) (fun _ _ _ h => h) (Or.inl ⟨by rfl, ?hy5⟩) (by assumption) ?hr5
  case hy5 => (intro w hSw; go_simp; try with_reducible rfl)
  try simp only [Act.put, List.setIfInBounds_toArray, List.set_cons_zero, List.set_cons_succ]
  refine wpAnyH_take (i := 5) (oi := { dst := some 11, op := _, type := _, pos := _, after := _, guard := _ }) (v := ?hv6) rfl (by kernel_rfl) (by kernel_rfl) (by kernel_rfl) (fun _ _ _ h => h) (Or.inl ⟨by rfl, ?hy6⟩) (by assumption) ?hr6
  case hy6 => (intro w hSw; go_simp; try with_reducible rfl)
  try simp only [Act.put, List.setIfInBounds_toArray, List.set_cons_zero, List.set_cons_succ]
  refine wpAnyH_ready (rs := [6]) (by kernel_rfl) (by simp) (AllReadyH.cons (o := _) rfl (fun K hK => ?_) AllReadyH.nil)
  go_simp
  go_at_call 43; (with_reducible refine (HP.out _).mono ?_); rintro x w1 ⟨rfl, hb1⟩; have H1 := Lib.hid (Hq.out.below hb1); have K1 := Lib.hid (Kq.out.trans (WK.of hb1)); clear hb1
  try go_wp2_with fail
  refine hK.out _ _ (trivial) (fun hHeld => ?_)
  clear hK K
  try simp only [Act.put, List.setIfInBounds_toArray, List.set_cons_zero, List.set_cons_succ]
  refine wpAnyH_ready (rs := [7]) (by kernel_rfl) (by simp) (AllReadyH.cons (o := _) rfl (fun K hK => ?_) AllReadyH.nil)
  go_simp
  go_at_call 75; (with_reducible refine (wstr_any base b l _ _ H1.out HL.out (by have := K1.out.size; omega)).mono ?_); rintro x w2 ⟨rfl, h2, k2⟩; have H2 := Lib.hid h2; have K2 := Lib.hid (K1.out.trans k2); clear h2 k2
  try go_wp2_with fail
  refine hK.out _ _ (trivial) (fun hHeld => ?_)
  clear hK K
  try simp only [Act.put, List.setIfInBounds_toArray, List.set_cons_zero, List.set_cons_succ]
  refine wpAnyH_done (by kernel_rfl) ?_ _
  go_wp2
  go_end0
  exact ⟨rfl, H2.out, K2.out⟩

theorem cell_heap {W W' : World} {b : Nat} (h : W'.heap[b]? = W.heap[b]?) (j : Nat) : W'.cell? ⟨b, j, none⟩ = W.cell? ⟨b, j, none⟩ := by simp [World.cell?, h]
theorem row_heap {W W' : World} {b : Nat} (h : W'.heap[b]? = W.heap[b]?) {o n : Nat} {cs : List Value} (hr : row? W b o n = some cs) : row? W' b o n = some cs := by
  obtain ⟨h1, h2⟩ := rangeAt_of_row? hr
  have hr : W'.rangeAt b o cs := fun j v hv => by rw [cell_heap h]; exact h1 j v hv
  have := row?_of hr
  rw [h2] at this
  exact this
/-- A slice of addresses that a writer's calls leave alone. -/
def AdsK (base b : Nat) (w : World) (v : Value) (l : List AD) : Prop := Ads w v l ∧ (l ≠ [] → ∀ g o n c, v = .slice (some ⟨g, o, none⟩) n c → g ≠ b ∧ (g < base ∨ ∀ cur fz, w.heap[g]? ≠ some (.cells cur 5 fz)))
theorem AdsK.wk {base b : Nat} {w w' : World} {v : Value} {l : List AD} (h : AdsK base b w v l) (k : WK base b w w') : AdsK base b w' v l := by
  obtain ⟨⟨p, cap, h1, h2, h3, h4, h5⟩, h6⟩ := h
  by_cases hn : l = []
  · subst hn
    exact ⟨⟨p, cap, h1, h2, h3, h4, fun hne => absurd rfl hne⟩, fun hne => absurd rfl hne⟩
  · obtain ⟨g, o, e1, e2, e3⟩ := h5 hn
    have h7 := h6 hn g o l.length cap (by rw [h1, e1])
    have hh : w'.heap[g]? = w.heap[g]? := k.block g e2 h7.1 h7.2
    refine ⟨⟨p, cap, h1, h2, h3, h4, fun _ => ⟨g, o, e1, Nat.lt_of_lt_of_le e2 k.size, fun i hi => row_heap hh (e3 i hi)⟩⟩, fun _ g' o' n c e => ?_⟩
    have eg : g' = g := by rw [h1, e1] at e; simp at e; exact e.1.1.symm
    subst eg
    refine ⟨h7.1, ?_⟩
    rcases h7.2 with hl | hr
    · exact Or.inl hl
    · right; rw [hh]; exact hr
theorem AdsK.old {base b : Nat} {w W : World} {v : Value} {l : List AD} (h : Ads w v l) (hk : Below w.heap.size w W) (h1 : w.heap.size ≤ base) (h2 : w.heap.size ≤ b) : AdsK base b W v l := by
  refine ⟨h.below hk, fun hn g o n c e => ?_⟩
  obtain ⟨g', o', cap, e2, _, _, hlt, _⟩ := h.parts hn
  have eg : g' = g := by rw [e2] at e; simp at e; exact e.1.1
  subst eg
  exact ⟨by omega, Or.inl (by omega)⟩
theorem AdsK.lit {base b : Nat} {W : World} {a : AD} (ho : adOk a) (hb : b < W.heap.size) : AdsK base b (W.alloc (.cells (adC a).toArray 25)) (.slice (some ⟨W.heap.size, 0, none⟩) 1 1) [a] := by
  have hm := ObjAt.made W (adC a).toArray 25
  refine ⟨⟨some ⟨W.heap.size, 0, none⟩, 1, rfl, Nat.le_refl _, by decide, fun x hx => by rw [List.mem_singleton] at hx; subst hx; exact ho, fun _ => ⟨W.heap.size, 0, rfl, hm.lt, fun i hi => ?_⟩⟩, fun _ g o n c e => ?_⟩
  · have h0 : i = 0 := by simp at hi; omega
    subst h0
    exact obj_rowk (A := []) (M := adC a) (C := []) (by simpa using hm) rfl (adC_length ho)
  · simp at e
    obtain ⟨⟨rfl, _⟩, _⟩ := e
    refine ⟨by omega, Or.inr fun cur fz h => ?_⟩
    unfold ObjAt at hm
    rw [hm] at h
    simp at h
set_option maxRecDepth 100000 in
set_option maxHeartbeats 2000000 in
theorem waddrs_any (base b : Nat) (l : List UInt8) (v : Value) (ls : List AD) (w : World) (h : WB base w b l) (ha : AdsK base b w v ls) (hls : ls.length ≤ 1000000) (hl : l.length ≤ 100000000) (hbase : base ≤ w.heap.size) :
    Calls Try.prog 40 #[.pointer (some ⟨b, 0, none⟩), v] w fun x w' => x = .returned (.tuple #[]) ∧ WB base w' b (l ++ listL ls) ∧ WK base b w w' := by
  have HA := Lib.hid ha
  have HOK := Lib.hid ha.1.ok
  obtain ⟨p, cap, rfl, h1, h2⟩ := ha.1.len
  by_cases h0 : ls.length = 0
  · have e1 : ls = [] := List.eq_nil_of_length_eq_zero h0
    subst e1
    clear ha h1 h2 HOK
    have H := Lib.hid h
    clear h hls
    go_enter Try.func40, Try.ntmps40
    go_wp2_with fail
    go_loop [8] (fun i => i = .int .i64 0) (fun _ => 0)
    case atStart => rfl
    case round =>
      subst hrel
      go_wp2
      go_end0
      exact ⟨rfl, by simpa [listL] using H.out, WK.refl _ _ _⟩
  · have na : ls ≠ [] := fun h => h0 (by rw [h]; rfl)
    obtain ⟨g, o, cap', e, _, _, hgl, Ra⟩ := ha.1.parts na
    simp only [Value.slice.injEq] at e
    obtain ⟨rfl, -, hcc⟩ := e
    subst hcc
    have HROW : Hid (∀ W, AdsK base b W (.slice (some ⟨g, o, none⟩) ls.length cap) ls → ∀ i (hi : i < ls.length), row? W g (o + i * 17) 17 = some (adC ls[i])) := Lib.hid fun W hW i hi => by
      obtain ⟨g2, o2, cap2, e2, _, _, _, R2⟩ := hW.1.parts na
      simp only [Value.slice.injEq, Option.some.injEq, Addr.mk.injEq] at e2
      obtain ⟨⟨rfl, rfl, _⟩, _, _⟩ := e2
      exact R2 i hi
    obtain ⟨n, hn⟩ : ∃ n, n = ls.length := ⟨_, rfl⟩
    have HN := Lib.hid hn
    rw [← hn] at h0 h1 hls HA ⊢
    have HROW : Hid (∀ W, AdsK base b W (.slice (some ⟨g, o, none⟩) n cap) ls → ∀ i (hi : i < ls.length), row? W g (o + i * 17) 17 = some (adC ls[i])) := Lib.hid (by rw [hn]; exact HROW.out)
    have H := Lib.hid h
    clear ha h h1 h2 na hgl Ra hn
    go_enter Try.func40, Try.ntmps40
    go_wp2_with fail
    go_loopw [8] (fun i wr => ∃ k : Nat, k ≤ n ∧ i = .int .i64 k ∧ Hid (WB base wr b (l ++ listL (ls.take k))) ∧ Hid (WK base b w wr)) (fun i _ => n - (intOf i).toNat)
    case atStart => exact ⟨0, by omega, rfl, Lib.hid (by simpa [listL] using H.out), Lib.hid (WK.refl _ _ _)⟩
    case round =>
      obtain ⟨k, hk, rfl, HWB, HWK⟩ := hrel
      by_cases hlt : k < n
      · have g1 : k < ls.length := by rw [← HN.out]; exact hlt
        have r1 := HROW.out _ (HA.out.wk HWK.out) k g1
        have hoa := HOK.out _ (List.getElem_mem g1)
        have HB : Hid (∀ W, Calls Try.prog 77 #[.agg (adC ls[k]).toArray] W fun x w' => x = .returned (.string (Str (adB ls[k]))) ∧ Below W.heap.size W w') := Lib.hid fun W => bytes_any ls[k].1 ls[k].2 hoa W
        have HT := Lib.hid (listL_succ g1)
        have hd : decide ((k : Int) < (n : Int)) = true := by simp; omega
        have hk1 : (k : Int) < (n : Int) := by omega
        have hw1 : IntKind.i64.wrap ((k : Int) + 1) = (k : Int) + 1 := by simp only [IntKind.wrap_i64]; omega
        have hfok : fok (adC ls[k]).toArray 17 = true := fok_addr _ _ hoa
        have hfm := free_made wr #[.bool false, .int .u8 0, .int .u8 0, .int .u8 0, .int .u8 0, .int .u8 0, .int .u8 0, .int .u8 0, .int .u8 0, .int .u8 0, .int .u8 0, .int .u8 0, .int .u8 0, .int .u8 0, .int .u8 0, .int .u8 0, .int .u8 0] 25 17 (by simp)
        have HM : Hid (ObjAt (aggW (wr.alloc (.cells #[.bool false, .int .u8 0, .int .u8 0, .int .u8 0, .int .u8 0, .int .u8 0, .int .u8 0, .int .u8 0, .int .u8 0, .int .u8 0, .int .u8 0, .int .u8 0, .int .u8 0, .int .u8 0, .int .u8 0, .int .u8 0, .int .u8 0] 25)) wr.heap.size (adC ls[k])) wr.heap.size (adC ls[k]).toArray 25 ∧ Below wr.heap.size wr (aggW (wr.alloc (.cells #[.bool false, .int .u8 0, .int .u8 0, .int .u8 0, .int .u8 0, .int .u8 0, .int .u8 0, .int .u8 0, .int .u8 0, .int .u8 0, .int .u8 0, .int .u8 0, .int .u8 0, .int .u8 0, .int .u8 0, .int .u8 0, .int .u8 0] 25)) wr.heap.size (adC ls[k]))) := Lib.hid ⟨aggW_obj (L := [.bool false, .int .u8 0, .int .u8 0, .int .u8 0, .int .u8 0, .int .u8 0, .int .u8 0, .int .u8 0, .int .u8 0, .int .u8 0, .int .u8 0, .int .u8 0, .int .u8 0, .int .u8 0, .int .u8 0, .int .u8 0, .int .u8 0]) (ObjAt.made wr _ _) (by rw [adC_length hoa]; rfl) (addrC_one _ _), aggW_below ((Below.refl _ _).alloc (Nat.le_refl _) _) (Nat.le_refl _) _⟩
        have HLA := Lib.hid (adC_length hoa)
        have HL : Hid ((l ++ listL (ls.take k)).length + (adB ls[k]).length ≤ 1000000000) := Lib.hid (by
          have h3 := listL_le (l := ls.take k) (fun a ha => HOK.out a (List.mem_of_mem_take ha))
          have h4 := adB_le hoa
          rw [List.length_take] at h3
          rw [List.length_append]
          omega)
        have HNE := Lib.hid (show wr.heap.size ≠ b by have := HWB.out.lt; omega)
        generalize adC ls[k] = A at *
        generalize adB ls[k] = B at *
        clear hoa g1
        go_upto_region 3 with (fail)
        generalize aggW (wr.alloc _) wr.heap.size _ = W1 at HM ⊢
        have H1 := Lib.hid (HWB.out.below HM.out.2)
        have K1 := Lib.hid (HWK.out.trans (WK.of HM.out.2))
        have HM := Lib.hid HM.out.1
        generalize wr.heap.size = m at HM HNE ⊢
        have HRow : Hid (∀ W, ObjAt W m A.toArray 25 → row? W m 0 17 = some A) := Lib.hid fun W hW => obj_rowk (A := []) (M := A) (C := []) (by simpa using hW) rfl HLA.out
        clear hfm hfok r1
        refine wp_region_held_drew (S := fun W => row? W m 0 17 = some A) (by kernel_rfl) (HRow.out _ (show ObjAt W1.drew m _ 25 from HM.out)) (fun hHeld => ?_)
        have Hq := Lib.hid (show WB base W1.drew b _ from H1.out)
        have Kq := Lib.hid (show WK base b w W1.drew from K1.out.trans ⟨rfl, rfl, rfl, Nat.le_refl _, fun _ _ _ _ => rfl⟩)
        have Mq := Lib.hid (show ObjAt W1.drew m _ 25 from HM.out)
        generalize World.drew _ = Wq at Hq Kq Mq hHeld ⊢
        refine wpAnyH_take (i := 0) (oi := { dst := some 12, op := _, type := _, pos := _, after := _, guard := _ }) (v := ?hv41) rfl (by kernel_rfl) (by kernel_rfl) (by kernel_rfl) (fun _ _ _ h => h) (Or.inl ⟨by rfl, ?hy41⟩) (by assumption) ?hr41
        case hy41 => (intro w hSw; go_simp; try with_reducible rfl)
        try simp only [Act.put, List.setIfInBounds_toArray, List.set_cons_zero, List.set_cons_succ]
        refine wpAnyH_take (i := 1) (oi := { dst := some 13, op := _, type := _, pos := _, after := _, guard := _ }) (v := ?hv42) rfl (by kernel_rfl) (by kernel_rfl) (by kernel_rfl) (fun _ _ _ h => h) (Or.inl ⟨by rfl, ?hy42⟩) (by assumption) ?hr42
        case hy42 => (intro w hSw; go_simp; try with_reducible rfl)
        try simp only [Act.put, List.setIfInBounds_toArray, List.set_cons_zero, List.set_cons_succ]
        refine wpAnyH_take (i := 2) (oi := { dst := some 14, op := _, type := _, pos := _, after := _, guard := _ }) (v := ?hv43) rfl (by kernel_rfl) (by kernel_rfl) (by kernel_rfl) (fun _ _ _ h => h) (Or.inl ⟨by rfl, ?hy43⟩) (by assumption) ?hr43
        case hy43 => (intro w hSw; go_simp; try with_reducible rfl)
        try simp only [Act.put, List.setIfInBounds_toArray, List.set_cons_zero, List.set_cons_succ]
        refine wpAnyH_take (i := 3) (oi := { dst := some 15, op := _, type := _, pos := _, after := _, guard := _ }) (v := ?hv44) rfl (by kernel_rfl) (by kernel_rfl) (by kernel_rfl) (fun _ _ _ h => h) (Or.inl ⟨by rfl, ?hy44⟩) (by assumption) ?hr44
        case hy44 => (intro w hSw; go_simp; try with_reducible rfl)
        try simp only [Act.put, List.setIfInBounds_toArray, List.set_cons_zero, List.set_cons_succ]
        refine wpAnyH_ready (rs := [4]) (by kernel_rfl) (by simp) (AllReadyH.cons (o := _) rfl (fun K hK => ?_) AllReadyH.nil)
        go_simp
        go_at_call 77; (with_reducible refine (HB.out _).mono ?_); rintro x w1 ⟨rfl, hb1⟩; have H2 := Lib.hid (Hq.out.below hb1); have K2 := Lib.hid (Kq.out.trans (WK.of hb1)); have M2 := Lib.hid (Mq.out.below hb1 Mq.out.lt); clear hb1
        try go_wp2_with fail
        refine hK.out _ _ (HRow.out _ M2.out) (fun hHeld => ?_)
        clear hK K
        try simp only [Act.put, List.setIfInBounds_toArray, List.set_cons_zero, List.set_cons_succ]
        refine wpAnyH_ready (rs := [5]) (by kernel_rfl) (by simp) (AllReadyH.cons (o := _) rfl (fun K hK => ?_) AllReadyH.nil)
        go_simp
        go_at_call 75; (with_reducible refine (wstr_any base b _ _ _ H2.out HL.out (by have := K2.out.size; omega)).mono ?_); rintro x w2 ⟨rfl, h2, k2⟩; have H3 := Lib.hid h2; have K3 := Lib.hid (K2.out.trans k2); have M3 := Lib.hid (ObjAt.wk M2.out k2 HNE.out (by decide)); clear h2 k2
        try go_wp2_with fail
        refine hK.out _ _ (HRow.out _ M3.out) (fun hHeld => ?_)
        clear hK K
        try simp only [Act.put, List.setIfInBounds_toArray, List.set_cons_zero, List.set_cons_succ]
        refine wpAnyH_done (by kernel_rfl) ?_ _
        go_wp2
        go_roundw
        case rel => exact ⟨k + 1, by omega, by go_num, Lib.hid (by rw [HT.out, ← List.append_assoc]; exact H3.out), K3⟩
        case measure => simp [intOf]; omega
      · have hd : ¬ (k : Int) < (n : Int) := by omega
        have HV := Lib.hid (show ls.take k = ls from List.take_of_length_le (by rw [← HN.out]; omega))
        go_wp2
        go_end0
        exact ⟨rfl, by have := HWB.out; rw [HV.out] at this; exact this, HWK.out⟩
end Go.Proofs.Ytchbkamjmkfikaa
