/- A part of the proof. -/
import Derived.Test.YtlbdehegknehiaaGreatMg00
import Derived.Test.YtlbdehegknehiaaGreatIgX
namespace Go.Proofs.YtlbdehegknehiaaGreat
set_option maxRecDepth 100000
set_option maxHeartbeats 4000000
open Go.RowKit
set_option linter.unusedVariables false
set_option linter.unusedSimpArgs false
attribute [local go_sem ↓] ld_addr st_addr bld_addr ld_rec st_rec ld_tk st_tk bld_tk bld_shp adsLit_eq
attribute [local go_sem] ldr_addr str_addr str_addr_at ldr_tk str_tk bldr_shp ldr_rec str_rec row?_drew_eq
structure QR8 (base b : Nat) (w W : World) (m : Nat) (x : RC) (u : Value) (l : List UInt8) : Prop where
  wb : WB base W b l
  wk : WK base b w W
  ob : ObjAt W m (rcC x u).toArray 109
  ne : m ≠ b
theorem QR8.step {base b m : Nat} {w W W' : World} {x : RC} {u : Value} {l l' : List UInt8} (h : QR8 base b w W m x u l) (h1 : WB base W' b l') (k : WK base b W W') : QR8 base b w W' m x u l' :=
  ⟨h1, h.wk.trans k, ObjAt.wk h.ob k h.ne (by decide), h.ne⟩
theorem QR8.below {base b m : Nat} {w W W' : World} {x : RC} {u : Value} {l : List UInt8} (h : QR8 base b w W m x u l) (k : Below W.heap.size W W') : QR8 base b w W' m x u l :=
  ⟨h.wb.below k, h.wk.trans (WK.of k), h.ob.below k h.ob.lt, h.ne⟩
theorem ObjAt.rcc {W : World} {m : Nat} {x : RC} {u : Value} (h : ObjAt W m (rcC x u).toArray 109) (ho : adOk x.g) (ha : ∃ w : World, Ads w u x.src) : RcC W m 0 x u := by
  have hr : row? W m 0 19 = some (rcC x u) := obj_rowk (A := []) (M := rcC x u) (C := []) (by simpa using h) rfl (rcC_length ho u)
  obtain ⟨h5, h6⟩ := rangeAt_of_row? hr
  have hl := adC_length ho
  refine ⟨h5 0 _ rfl, ?_, ?_⟩
  · have hr : W.rangeAt m (0 + 1) (adC x.g) := fun j v hv => by
      have hj := (List.getElem?_eq_some_iff.1 hv).1
      have := h5 (1 + j) v (by
        unfold rcC
        rw [Nat.add_comm 1 j, List.getElem?_cons_succ, List.getElem?_append_left hj]
        exact hv)
      rw [← Nat.add_assoc] at this
      exact this
    have := row?_of hr
    rw [hl] at this
    exact this
  · exact h5 18 u (by
      unfold rcC
      rw [show (18 : Nat) = 17 + 1 from rfl, List.getElem?_cons_succ, List.getElem?_append_right (by omega), hl]
      rfl)
def wrecsB (l : List RC) : List UInt8 := (l.map recB).flatten
theorem wrecsB_succ {l : List RC} {k : Nat} (h : k < l.length) : wrecsB (l.take (k + 1)) = wrecsB (l.take k) ++ recB l[k] := by
  unfold wrecsB
  rw [List.take_succ_eq_append_getElem h, List.map_append, List.flatten_append]
  simp only [List.map_cons, List.map_nil, List.flatten_cons, List.flatten_nil, List.append_nil]
theorem wrecB_le {r : RC} (ho : adOk r.g ∧ ∀ a ∈ r.src, adOk a) (hn : r.src.length ≤ 64) : (recB r).length ≤ 1100 := by
  have h1 := adB_le ho.1
  have h2 := listL_le (l := r.src) ho.2
  unfold recB
  simp only [List.length_append, List.length_cons, putL_length]
  omega
theorem wrecsB_le (l : List RC) (ho : ∀ r ∈ l, adOk r.g ∧ ∀ a ∈ r.src, adOk a) (hn : ∀ r ∈ l, r.src.length ≤ 64) : (wrecsB l).length ≤ 1100 * l.length := by
  induction l with
  | nil => simp [wrecsB]
  | cons a r ih =>
    have h1 := wrecB_le (ho a (by simp)) (hn a (by simp))
    have h2 := ih (fun x hx => ho x (by simp [hx])) (fun x hx => hn x (by simp [hx]))
    unfold wrecsB at h2 ⊢
    simp at h2 ⊢
    omega
theorem wreport_any (base b : Nat) (l : List UInt8) (v : Value) (rcs : List RC) (w0 w : World) (h : WB base w b l) (hr : Rcs w0 v rcs) (hk0 : Below w0.heap.size w0 w) (hb1 : w0.heap.size ≤ base) (hb2 : w0.heap.size ≤ b) (hl : l.length ≤ 10000000) (hbase : base ≤ w.heap.size)
    (hn : rcs.length ≤ 64) (hok : rcs.all recOk = true) :
    Calls Tryz.prog 157 #[.pointer (some ⟨b, 0, none⟩), v] w fun x w' => x = .returned (.tuple #[]) ∧ WB base w' b (l ++ putL 0 2 ++ putL rcs.length 2 ++ wrecsB rcs) ∧ WK base b w w' := by
  have HRA : Hid (∀ W, WK base b w W → Rcs W v rcs) := zh fun W hW => hr.below (hk0.trans (hW.blw hb1 hb2 hk0.size))
  have HB0 : Hid (∀ W, WK base b w W → Below w0.heap.size w0 W) := zh fun W hW => hk0.trans (hW.blw hb1 hb2 hk0.size)
  have HAO := zh hr.ok
  have HOKA := zh (List.all_eq_true.1 hok)
  have HSL : Hid (∀ r ∈ rcs, r.src.length ≤ 64) := zh fun r hr => by
    have h1 := HOKA.out r hr
    unfold recOk at h1
    rw [Bool.and_eq_true] at h1
    have := srcs8_len h1.2
    omega
  obtain ⟨p, cap, rfl, h1, h2⟩ := hr.len
  obtain ⟨n, hnn⟩ : ∃ n, n = rcs.length := ⟨_, rfl⟩
  have HN1 : Hid (∀ l W, WB base W b l → l.length ≤ 100000000 → base ≤ W.heap.size → Calls Tryz.prog 153 #[.pointer (some ⟨b, 0, none⟩), .int .i64 0, .int .i64 2] W fun x w' => x = .returned (.tuple #[]) ∧ WB base w' b (l ++ putL 0 2) ∧ WK base b W w') := zh fun l W h1 h2 h3 => wnum_any base b l 0 2 W (by omega) (by omega) h1 h2 h3
  have HN2 : Hid (∀ l W, WB base W b l → l.length ≤ 100000000 → base ≤ W.heap.size → Calls Tryz.prog 153 #[.pointer (some ⟨b, 0, none⟩), .int .i64 (rcs.length : Nat), .int .i64 2] W fun x w' => x = .returned (.tuple #[]) ∧ WB base w' b (l ++ putL rcs.length 2) ∧ WK base b W w') := zh fun l W h1 h2 h3 => wnum_any base b l rcs.length 2 W (by omega) (by omega) h1 h2 h3
  have HL := zh hl
  have HLL := zh hl
  rw [← hnn]
  have HN := zh hnn
  have H0 := zh h
  rw [← hnn] at hn h1 HN2
  have hbs : base ≤ w.heap.size := hbase
  by_cases h00 : n = 0
  · have e1 : rcs = [] := List.eq_nil_of_length_eq_zero (by omega)
    subst e1 h00
    clear hr h1 h2 h hnn HN
    go_enter Tryz.func157, Tryz.ntmps157
    go_upto_region 1 with (go_at_call 153; (with_reducible refine (HN1.out _ _ H0.out (by have := HL.out; omega) (by omega)).mono ?_); rintro x w1 ⟨rfl, h9, k9⟩; have H1 := zh h9; have K1 := zh k9; clear h9 k9)
    go_upto_region 2 with (go_at_call 153; (with_reducible refine (HN1.out _ _ H1.out (by have := HL.out; simp only [List.length_append, putL_length]; omega) (by have := K1.out.size; omega)).mono ?_); rintro x w2 ⟨rfl, h9, k9⟩; have H2 := zh h9; have K2 := zh (K1.out.trans k9); clear h9 k9)
    go_wp2_with fail
    go_loop [14] (fun i => i = .int .i64 0) (fun _ => 0)
    case atStart => rfl
    case round =>
      subst hrel
      go_wp2
      go_end0
      exact ⟨rfl, by simpa [wrecsB] using H2.out, K2.out⟩
  · obtain ⟨rb, ro, cr', er, _, _, Ra⟩ := hr.parts (fun h => h00 (by rw [hnn, h]; rfl))
    simp only [Value.slice.injEq] at er
    obtain ⟨rfl, -, hcc⟩ := er
    subst hcc
    have RA := zh Ra
    have HNE := zh (show rcs ≠ [] from fun h => h00 (by rw [hnn, h]; rfl))
    clear Ra hr h1 h2 h hnn
    go_enter Tryz.func157, Tryz.ntmps157
    go_upto_region 1 with (go_at_call 153; (with_reducible refine (HN1.out _ _ H0.out (by have := HL.out; omega) (by omega)).mono ?_); rintro x w1 ⟨rfl, h9, k9⟩; have H1 := zh h9; have K1 := zh k9; clear h9 k9)
    go_upto_region 2 with (go_at_call 153; (with_reducible refine (HN2.out _ _ H1.out (by have := HL.out; simp only [List.length_append, putL_length]; omega) (by have := K1.out.size; omega)).mono ?_); rintro x w2 ⟨rfl, h9, k9⟩; have H2 := zh h9; have K2 := zh (K1.out.trans k9); clear h9 k9)
    go_wp2_with fail
    go_loopw [14] (fun i wr => ∃ k : Nat, k ≤ n ∧ i = .int .i64 k ∧ Hid (WB base wr b (l ++ putL 0 2 ++ putL n 2 ++ wrecsB (rcs.take k))) ∧ Hid (WK base b w wr)) (fun i _ => n - (intOf i).toNat)
    case atStart => exact ⟨0, by omega, rfl, zh (by simpa [wrecsB] using H2.out), K2⟩
    case round =>
      obtain ⟨k, hk, rfl, HWB, HWK⟩ := hrel
      by_cases hlt : k < n
      · have g1 : k < rcs.length := by rw [← HN.out]; exact hlt
        have hmem := List.getElem_mem g1
        obtain ⟨u, hu⟩ := (RA.out k g1).u
        have hu2 := hu.below (HB0.out _ HWK.out)
        have r1 := hu2.2.2.1
        obtain ⟨ho, hlt2, _, ha⟩ := hu2
        obtain ⟨pp, cc, eu, hlu, hlm⟩ := ha.len
        subst eu
        have HAK : Hid (∀ W, WK base b w W → AdsK base b W (.slice pp rcs[k].src.length cc) rcs[k].src) := zh fun W hW => AdsK.old hu.2.2.2 (HB0.out W hW) hb1 hb2
        clear hu
        have hfok := fok_rec ho ha.one
        have hfm := free_made wr zz19 109 19 (by simp)
        have HM : Hid (QR8 base b w (aggW (wr.alloc (.cells zz19 109)) wr.heap.size (rcC rcs[k] (.slice pp rcs[k].src.length cc))) wr.heap.size rcs[k] (.slice pp rcs[k].src.length cc) (l ++ putL 0 2 ++ putL n 2 ++ wrecsB (rcs.take k))) := zh (by
          have hbx := aggW_below ((Below.refl wr.heap.size wr).alloc (Nat.le_refl _) (.cells zz19 109)) (Nat.le_refl _) (rcC rcs[k] (.slice pp rcs[k].src.length cc))
          have hob := aggW_obj (L := (zz19 : Array Value).toList) (cs := rcC rcs[k] (.slice pp rcs[k].src.length cc)) (by simpa using ObjAt.made wr zz19 109) (by rw [rcC_length ho]; rfl) (rcC_one ha.one)
          exact ⟨HWB.out.below hbx, HWK.out.trans (WK.of hbx), hob, by have := HWB.out.lt; omega⟩)
        have HT := zh (wrecsB_succ g1)
        have HLG := zh (adB_le ho)
        have HLS := zh (show (listL rcs[k].src).length ≤ 1024 by have := listL_le (l := rcs[k].src) ha.ok; have := HSL.out _ hmem; omega)
        have HLL : Hid (l.length + (wrecsB (rcs.take k)).length ≤ 11000000) := zh (by
          have h3 := wrecsB_le (rcs.take k) (fun a ha => HAO.out a (List.mem_of_mem_take ha)) (fun a ha => HSL.out a (List.mem_of_mem_take ha))
          rw [List.length_take] at h3
          have := HL.out
          omega)
        have hs64 := HSL.out _ hmem
        obtain ⟨kn, hkn, hk6⟩ : ∃ kn : Nat, rcs[k].kind = kn ∧ kn ≤ 6 := by
          have h1 := HOKA.out _ hmem
          unfold recOk rcOk at h1
          rw [Bool.and_eq_true, Bool.and_eq_true, decide_eq_true_iff] at h1
          exact ⟨rcs[k].kind.toNat, by omega, by omega⟩
        have hd : decide ((k : Int) < (n : Int)) = true := by simp; omega
        have hk1 : (k : Int) < (n : Int) := by omega
        have hw1 : IntKind.i64.wrap ((k : Int) + 1) = (k : Int) + 1 := by simp only [IntKind.wrap_i64]; omega
        have HM1 : Hid (∀ l W, WB base W b l → l.length ≤ 100000000 → base ≤ W.heap.size → Calls Tryz.prog 153 #[.pointer (some ⟨b, 0, none⟩), .int .i64 kn, .int .i64 1] W fun x w' => x = .returned (.tuple #[]) ∧ WB base w' b (l ++ putL kn 1) ∧ WK base b W w') := zh fun l W h1 h2 h3 => wnum_any base b l kn 1 W (by omega) (by omega) h1 h2 h3
        have HM2 : Hid (∀ l W, WB base W b l → l.length ≤ 100000000 → base ≤ W.heap.size → Calls Tryz.prog 153 #[.pointer (some ⟨b, 0, none⟩), .int .i64 0, .int .i64 1] W fun x w' => x = .returned (.tuple #[]) ∧ WB base w' b (l ++ putL 0 1) ∧ WK base b W w') := zh fun l W h1 h2 h3 => wnum_any base b l 0 1 W (by omega) (by omega) h1 h2 h3
        have HM3 : Hid (∀ l W, WB base W b l → l.length ≤ 100000000 → base ≤ W.heap.size → Calls Tryz.prog 153 #[.pointer (some ⟨b, 0, none⟩), .int .i64 (rcs[k].src.length : Nat), .int .i64 2] W fun x w' => x = .returned (.tuple #[]) ∧ WB base w' b (l ++ putL rcs[k].src.length 2) ∧ WK base b W w') := zh fun l W h1 h2 h3 => wnum_any base b l rcs[k].src.length 2 W (by omega) (by omega) h1 h2 h3
        have hlit := adsLit_run rcs[k].g ho
        have HLIT : Hid (∀ W l m, QR8 base b w W m rcs[k] (.slice pp rcs[k].src.length cc) l → l.length ≤ 100000000 → Calls Tryz.prog 158 #[.pointer (some ⟨b, 0, none⟩), .slice (some ⟨W.heap.size, 0, none⟩) 1 1] (W.alloc (.cells (adC rcs[k].g).toArray 24)) fun x w' => x = .returned (.tuple #[]) ∧ QR8 base b w w' m rcs[k] (.slice pp rcs[k].src.length cc) (l ++ adB rcs[k].g)) := zh fun W l m h hl => by
          have hk := (Below.refl W.heap.size W).alloc (Nat.le_refl _) (.cells (adC rcs[k].g).toArray 24)
          have h' := h.below hk
          refine (waddrs_any base b l _ [rcs[k].g] _ h'.wb (AdsK.lit ho h.wb.lt) (by simp) hl (by have := h'.wk.size; omega)).mono ?_
          rintro x w' ⟨e, h1, h2⟩
          exact ⟨e, by have := h'.step h1 h2; simpa [listL] using this⟩
        have HADR : Hid (∀ W l m, QR8 base b w W m rcs[k] (.slice pp rcs[k].src.length cc) l → l.length ≤ 100000000 → Calls Tryz.prog 158 #[.pointer (some ⟨b, 0, none⟩), .slice pp rcs[k].src.length cc] W fun x w' => x = .returned (.tuple #[]) ∧ QR8 base b w w' m rcs[k] (.slice pp rcs[k].src.length cc) (l ++ listL rcs[k].src)) := zh fun W l m h hl => by
          refine (waddrs_any base b l _ rcs[k].src _ h.wb (HAK.out W h.wk) (by omega) hl (by have := h.wk.size; omega)).mono ?_
          rintro x w' ⟨e, h1, h2⟩
          exact ⟨e, h.step h1 h2⟩
        have HRB := zh (show recB rcs[k] = putL kn 1 ++ putL 0 1 ++ putL rcs[k].src.length 2 ++ adB rcs[k].g ++ listL rcs[k].src by
          unfold recB; rw [hkn]; simp [putL_one])
        have HC : Hid (∀ W l, QR8 base b w W wr.heap.size rcs[k] (.slice pp rcs[k].src.length cc) l → W.cell? ⟨wr.heap.size, 0, none⟩ = some (.int .i64 kn) ∧ row? W wr.heap.size (0 + 1) 17 = some (adC rcs[k].g) ∧ W.cell? ⟨wr.heap.size, 0 + 18, none⟩ = some (.slice pp rcs[k].src.length cc)) := zh fun W l h => by
          have := h.ob.rcc ho ⟨wr, ha⟩
          unfold RcC at this
          rw [hkn] at this
          exact this
        clear ha hlt2 hlu hlm hkn hs64
        generalize rcs[k] = y at *
        obtain ⟨xk, xg, xs⟩ := y
        simp only at *
        generalize xs.length = sn at *
        go_upto_region 5 with (fail)
        generalize aggW (wr.alloc _) wr.heap.size _ = W1 at HM ⊢
        generalize wr.heap.size = m at *
        clear hfok hfm r1
        obtain ⟨d0, d1, d2⟩ := HC.out _ _ HM.out
        go_upto_region 6 with (go_at_call 153; (with_reducible refine (HM1.out _ _ HM.out.wb (by have := HLG.out; have := HLS.out; have := HLL.out; (try simp only [List.length_append, putL_length]); omega) (by have := HM.out.wk.size; omega)).mono ?_); rintro x wg1 ⟨rfl, h9, k9⟩; have G1 := zh (HM.out.step h9 k9); clear h9 k9; clear d0 d1 d2; obtain ⟨d0, d1, d2⟩ := HC.out _ _ G1.out)
        go_upto_region 7 with (go_at_call 153; (with_reducible refine (HM2.out _ _ G1.out.wb (by have := HLG.out; have := HLS.out; have := HLL.out; (try simp only [List.length_append, putL_length]); omega) (by have := G1.out.wk.size; omega)).mono ?_); rintro x wg2 ⟨rfl, h9, k9⟩; have G2 := zh (G1.out.step h9 k9); clear h9 k9; clear d0 d1 d2; obtain ⟨d0, d1, d2⟩ := HC.out _ _ G2.out)
        go_upto_region 8 with (go_at_call 153; (with_reducible refine (HM3.out _ _ G2.out.wb (by have := HLG.out; have := HLS.out; have := HLL.out; (try simp only [List.length_append, putL_length]); omega) (by have := G2.out.wk.size; omega)).mono ?_); rintro x wg3 ⟨rfl, h9, k9⟩; have G3 := zh (G2.out.step h9 k9); clear h9 k9; clear d0 d1 d2; obtain ⟨d0, d1, d2⟩ := HC.out _ _ G3.out)
        go_upto_region 9 with (go_at_call 158; (with_reducible refine (HLIT.out _ _ _ G3.out (by have := HLG.out; have := HLS.out; have := HLL.out; (try simp only [List.length_append, putL_length]); omega)).mono ?_); rintro x w9 ⟨rfl, h9⟩; have G4 := zh h9; clear h9 d0 d1 d2; obtain ⟨d0, d1, d2⟩ := HC.out _ _ G4.out)
        go_upto_region 10 with (go_at_call 158; (with_reducible refine (HADR.out _ _ _ G4.out (by have := HLG.out; have := HLS.out; have := HLL.out; (try simp only [List.length_append, putL_length]); omega)).mono ?_); rintro x w10 ⟨rfl, h9⟩; have G5 := zh h9; clear h9)
        go_wp2
        go_roundw
        case rel => exact ⟨k + 1, by omega, by go_num, zh (by rw [HT.out, HRB.out]; simpa [List.append_assoc] using G5.out.wb), zh G5.out.wk⟩
        case measure => simp [intOf]; omega
      · have hd : ¬ (k : Int) < (n : Int) := by omega
        have HV := zh (show rcs.take k = rcs from List.take_of_length_le (by rw [← HN.out]; omega))
        go_wp2
        go_end0
        exact ⟨rfl, by have := HWB.out; rw [HV.out] at this; simpa [List.append_assoc] using this, HWK.out⟩
end Go.Proofs.YtlbdehegknehiaaGreat
