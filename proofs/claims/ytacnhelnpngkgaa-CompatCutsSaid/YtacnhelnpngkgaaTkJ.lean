/-
  Records loaded and stored whole, and the document's own Good of a report of version 3.
-/
import Derived.Test.YtacnhelnpngkgaaMg16
namespace Go.Proofs.Ytacnhelnpngkgaa
open Go.RowKit
set_option linter.unusedVariables false
set_option linter.unusedSimpArgs false
theorem ld_rec (a : Addr) : loadVar 40 a = aggLd 40 a := rfl
theorem st_rec (a : Addr) (v : Value) : storeVar 40 a v = aggSt 40 a v := rfl
theorem bld_rec (p : Array (Nat × Value)) : Instr.build 40 p = aggBuild 40 p := rfl
theorem ldr_rec (b o : Nat) (w : World) : (aggLd 40 ⟨b, o, none⟩).run Try.prog w = match row? w b o 19 with | some cs => .ok (.agg cs.toArray) w | none => aggLdSlow 40 b o w :=
  ld_run Try.underlying40 rfl (by kernel_rfl) b o w
theorem str_rec (b : Nat) (cs : Array Value) (w : World) : (aggSt 40 ⟨b, 0, none⟩ (.agg cs)).run Try.prog w = match free? w b 0 19 && fok cs 19 with | true => .ok () (aggW w b cs.toList) | false => aggStSlow 40 b 0 (.agg cs) w :=
  st_run (by kernel_rfl) b cs w
/-- A record with its slice's value. -/
def RcU (w : World) (b o : Nat) (r : RC) (u : Value) : Prop := adOk r.g ∧ b < w.heap.size ∧ row? w b o 19 = some (rcC r u) ∧ Ads w u r.src
theorem RcAt.u {w : World} {b o : Nat} {r : RC} (h : RcAt w b o r) : ∃ u, RcU w b o r u := by
  obtain ⟨h1, h2, u, h3, h4⟩ := h
  exact ⟨u, h1, h2, h3, h4⟩
theorem RcU.at {w : World} {b o : Nat} {r : RC} {u : Value} (h : RcU w b o r u) : RcAt w b o r := ⟨h.1, h.2.1, u, h.2.2.1, h.2.2.2⟩
theorem RcU.below {w w' : World} {b o : Nat} {r : RC} {u : Value} (h : RcU w b o r u) (hb : Below w.heap.size w w') : RcU w' b o r u := by
  obtain ⟨h1, h2, h3, h4⟩ := h
  exact ⟨h1, Nat.lt_of_lt_of_le h2 hb.size, row?_below h3 h2 hb, h4.below hb⟩
/-- What is read of a record. -/
def RcC (w : World) (b o : Nat) (r : RC) (u : Value) : Prop := w.cell? ⟨b, o, none⟩ = some (.int .i64 r.kind) ∧ row? w b (o + 1) 17 = some (adC r.g) ∧ w.cell? ⟨b, o + 18, none⟩ = some u
theorem RcU.cells {w : World} {b o : Nat} {r : RC} {u : Value} (h : RcU w b o r u) : RcC w b o r u := by
  obtain ⟨h1, h2, h3, h4⟩ := h
  obtain ⟨h5, h6⟩ := rangeAt_of_row? h3
  have hl := adC_length h1
  refine ⟨h5 0 _ rfl, ?_, ?_⟩
  · have hr : w.rangeAt b (o + 1) (adC r.g) := fun j v hv => by
      have hj := (List.getElem?_eq_some_iff.1 hv).1
      have := h5 (1 + j) v (by
        unfold rcC
        rw [Nat.add_comm 1 j, List.getElem?_cons_succ, List.getElem?_append_left hj]
        exact hv)
      rw [← Nat.add_assoc] at this
      exact this
    have := row?_of hr
    rw [hl] at this
    exact this
  · exact h5 18 u (by
      unfold rcC
      rw [show (18 : Nat) = 17 + 1 from rfl, List.getElem?_cons_succ, List.getElem?_append_right (by omega), hl]
      rfl)
theorem Ads.one {w : World} {v : Value} {l : List AD} (h : Ads w v l) : v.oneCell' = true := by
  obtain ⟨p, cap, h1, _⟩ := h; rw [h1]; rfl
theorem rcC_one {r : RC} {u : Value} (hu : u.oneCell' = true) : ∀ v ∈ rcC r u, v.oneCell' = true := by
  intro v hv
  unfold rcC at hv
  simp only [List.mem_cons, List.mem_append, List.not_mem_nil, or_false] at hv
  rcases hv with rfl | hv | rfl
  · rfl
  · exact addrC_one _ _ v hv
  · exact hu
theorem fok_rec {r : RC} {u : Value} (h : adOk r.g) (hu : u.oneCell' = true) : fok (rcC r u).toArray 19 = true := by
  have h1 : (rcC r u).toArray.all (·.oneCell') = true := all_oneCell_toArray (rcC_one hu)
  simp only [fok, h1, Bool.and_true]
  simp [rcC_length h]
/-- A record boxed. -/
theorem RcU.boxed {w : World} {r : RC} {u : Value} {cs : Array Value} (ho : adOk r.g) (ha : Ads w u r.src) (hc : 19 = cs.size) : RcU (aggW (w.alloc (.cells cs 40)) w.heap.size (rcC r u)) w.heap.size 0 r u ∧ Below w.heap.size w (aggW (w.alloc (.cells cs 40)) w.heap.size (rcC r u)) := by
  have hf := free_made w cs 40 19 (by omega)
  have hb : Below w.heap.size w (aggW (w.alloc (.cells cs 40)) w.heap.size (rcC r u)) := aggW_below ((Below.refl _ _).alloc (Nat.le_refl _) _) (Nat.le_refl _) _
  have hob := ObjAt.made w cs 40
  have h2 := aggW_obj (L := cs.toList) (cs := rcC r u) (by simpa using hob) (by rw [rcC_length ho]; simp; omega) (rcC_one ha.one)
  exact ⟨⟨ho, h2.lt, aggW_row hf (rcC_length ho u), ha.below hb⟩, hb⟩
/-- Records that are good, one by one. -/
theorem rcs_take_succ {l : List RC} {k : Nat} (h : k < l.length) (f : RC → Bool) : (l.take (k + 1)).all f = ((l.take k).all f && f l[k]) := by
  rw [List.take_succ_eq_append_getElem h, List.all_append]; simp
theorem sizeR_succ {l : List RC} {k : Nat} (h : k < l.length) : sizeR (l.take (k + 1)) = sizeR (l.take k) + 8 + 4 * l[k].src.length := by
  unfold sizeR
  rw [List.take_succ_eq_append_getElem h, List.map_append, List.sum_append]
  simp; omega
theorem srcs8_len {l : List AD} (h : srcs8 l = true) : l.length < 65 := by
  unfold srcs8 at h
  rw [Bool.and_eq_true, decide_eq_true_eq] at h
  exact h.2
theorem sizeR_le {l : List RC} (h : l.all recOk = true) : sizeR l ≤ 8 + 264 * l.length := by
  induction l with
  | nil => simp [sizeR]
  | cons r q ih =>
    rw [List.all_cons, Bool.and_eq_true] at h
    have h1 := ih h.2
    have h2 := h.1
    unfold recOk at h2
    rw [Bool.and_eq_true] at h2
    have h3 := srcs8_len h2.2
    unfold sizeR at h1 ⊢
    simp at h1 ⊢
    omega
attribute [local go_sem ↓] ld_addr st_addr bld_addr ld_rec st_rec
attribute [local go_sem] ldr_addr str_addr ldr_rec str_rec


set_option maxRecDepth 100000 in
set_option maxHeartbeats 4000000 in
theorem rgood8_32 (t : TK) (us ur : Value) (w : World) (ho : t.ok) (hs : Ads w us t.src) (hr : Rcs w ur t.rcs) (hv6 : t.v6 = false) (hve : t.ver = 3) (hki : t.kind = 2)  (R : Bool) (hR : R = good8 t) :
    Calls Try.prog 23 #[.agg (tkC t us ur).toArray] w fun x w' => x = .returned (.bool R) ∧ Below w.heap.size w w' := by
  have H0 := Lib.hid (GD.made w t us ur ho.1)
  have HGD : Hid (∀ W, GD w W t us ur → GC w W t us ur) := Lib.hid fun W h => h.cells
  have HG := Lib.hid (fun W => rgroup8_any t.g ho.1 W)
  have HX1 := Lib.hid (fun W => rexact8 t.resp W)
  have HX2 := Lib.hid (fun W => rexact8 t.every W)
  have HS := Lib.hid (fun W (h : Below w.heap.size w W) => rsources8_any us t.src W (hs.below h))
  have q := fun w0 => eq_ad t.g zeroA ho.1 zeroA_ok w0
  have hbz := bld_zeroA
  have hfz : fok (adC zeroA).toArray 17 = true := fok_addr false _ zeroA_ok
  have hfm := free_made (w.alloc (.cells (tkC t us ur).toArray 28)) #[.bool false, .int .u8 0, .int .u8 0, .int .u8 0, .int .u8 0, .int .u8 0, .int .u8 0, .int .u8 0, .int .u8 0, .int .u8 0, .int .u8 0, .int .u8 0, .int .u8 0, .int .u8 0, .int .u8 0, .int .u8 0, .int .u8 0] 24 17 (by simp)
  rw [show (w.alloc (.cells (tkC t us ur).toArray 28)).heap.size = w.heap.size + 1 by simp] at hfm
  obtain ⟨pu, cu, e1, hu1, hu2⟩ := hs.len
  obtain ⟨pr, cr, e2, hr1, hr2⟩ := hr.len
  have hm1 : t.src.length ≤ maxLen := by omega
  have hm2 : t.rcs.length ≤ maxLen := by omega
  unfold maxLen at hm1 hm2
  have HRCS := Lib.hid hr
  clear hs hr hu1 hu2 hr1 hr2 ho
  obtain ⟨v6, ver, kind, resp, g, quiet, rob, every, src, rcs⟩ := t
  simp only at *
  subst e1 e2 hv6 hve hki
  have H0 := Lib.hid H0.out
  go_enter Try.func23, Try.ntmps23
  go_upto_region 2 with (fail)
  generalize aggW ((w.alloc (.cells (tkC _ _ _).toArray 28)).alloc (.cells #[.bool false, .int .u8 0, .int .u8 0, .int .u8 0, .int .u8 0, .int .u8 0, .int .u8 0, .int .u8 0, .int .u8 0, .int .u8 0, .int .u8 0, .int .u8 0, .int .u8 0, .int .u8 0, .int .u8 0, .int .u8 0, .int .u8 0] 24)) (w.heap.size + 1) _ = W at H0 ⊢
  obtain ⟨c0, c1, c2, c3, c4, c5, c6, c7, c8, c9, c10⟩ := HGD.out _ H0.out
  clear hfm hbz hfz
  cases quiet with
  | true =>
    have HR := Lib.hid (show R = false by rw [hR]; simp [good8, hR])
    clear hR
    go_wp2
    go_ret
    exact ⟨ret_bool8 (by rw [HR.out]), H0.out.2.2⟩
  | false =>
    by_cases zrob : rob = 0
    · have trob : (rob != 0) = false := by simp [zrob]
      by_cases zevery : every = 0
      · have tevery : (every != 0) = false := by simp [zevery]
        by_cases lsrc : src.length = 0
        · have tsrc : decide ((0 : Int) < (src.length : Int)) = false := by simp [lsrc]
          have vsrc : decide (0 < src.length) = false := by simp [lsrc]
          by_cases zresp : resp = 0
          · have tresp : (resp != 0) = false := by simp [zresp]
            have HRV : Hid (R = (rcs.all recOk && (decide (g = zeroA) && (decide (rcs.length < 65) && decide (sizeR rcs < 1401))))) := Lib.hid (by rw [hR]; simp [good8, zrob, zevery, lsrc, zresp])
            clear hR HX1 HX2 HG HS
            obtain ⟨n, hn⟩ : ∃ n, n = rcs.length := ⟨_, rfl⟩
            have HN := Lib.hid hn
            rw [← hn] at c9
            clear hn
            have HRC : Hid (∀ (W1 : World) (bb : Nat) (x : RC) (u : Value), RcU W1 bb 0 x u → RcC W1 bb 0 x u) := Lib.hid fun W1 bb x u h => h.cells
            by_cases ln : n = 0
            · have tn : decide ((0 : Int) < (n : Int)) = false := decide_eq_false (by omega)
              go_wp2_with fail
              go_loopw [5, 6] (fun nn i wr => ∃ (k : Nat) (z : Int), k ≤ n ∧ i = .int .i64 k ∧ nn = .int .i64 z ∧ Hid (n ≤ 1000 → z = ((sizeR (rcs.take k) : Nat) : Int)) ∧ Hid ((rcs.take k).all recOk = true) ∧ Hid (GD w wr ⟨false, 3, 2, resp, g, false, rob, every, src, rcs⟩ (.slice pu src.length cu) (.slice pr rcs.length cr))) (fun _ i _ => n - (intOf i).toNat)
              case atStart => exact ⟨0, 8, by omega, rfl, rfl, Lib.hid (fun _ => rfl), Lib.hid (by simp), H0⟩
              case round =>
                obtain ⟨k, z, hk, rfl, rfl, HZZ, HA, HB⟩ := hrel
                by_cases hlt : k < n
                · exact absurd hlt (by omega)
                · have hd : ¬ (k : Int) < (n : Int) := by omega
                  have HA2 : Hid (rcs.all recOk = true) := Lib.hid (by
                    have e := HA.out
                    rw [List.take_of_length_le (by rw [← HN.out]; omega)] at e
                    exact e)
                  have HZ : Hid (sizeR (rcs.take k) = sizeR rcs) := Lib.hid (by rw [List.take_of_length_le (by rw [← HN.out]; omega)])
                  have HB0 := Lib.hid HB.out
                  clear hlt
                  obtain ⟨c0, c1, c2, c3, c4, c5, c6, c7, c8, c9, c10⟩ := HGD.out _ HB.out
                  rw [← HN.out] at c9
                  by_cases zg : g = zeroA
                  · rw [decide_eq_true zg] at q
                    subst zg
                    by_cases l65 : n < 65
                    · have tl : decide ((n : Int) < 65) = true := decide_eq_true (by omega)
                      have HV : Hid (R = decide (z < 1401)) := Lib.hid (by
                        rw [HRV.out, HA2.out, ← HZ.out, ← HN.out, HZZ.out (by omega)]
                        simp only [Bool.true_and, decide_true, l65]
                        rw [Bool.eq_iff_iff]; simp; omega)
                      clear l65 HZZ
                      by_cases hz : z < 1401
                      · have tz : decide (z < 1401) = true := decide_eq_true hz
                        rw [tz] at HV
                        go_wp2
                        go_ret
                        exact ⟨ret_bool8 (by rw [HV.out]; try (first | exact tz | exact tz.symm)), HB0.out.2.2⟩
                      · have tz : decide (z < 1401) = false := decide_eq_false hz
                        rw [tz] at HV
                        go_wp2
                        go_ret
                        exact ⟨ret_bool8 (by rw [HV.out]; try (first | exact tz | exact tz.symm)), HB0.out.2.2⟩
                    · exact absurd (show n < 65 by omega) l65
                  · rw [decide_eq_false zg] at q
                    have HV : Hid (R = false) := Lib.hid (by
                        rw [HRV.out, decide_eq_false zg]; simp)
                    clear zg HZZ
                    go_wp2
                    go_ret
                    exact ⟨ret_bool8 (by rw [HV.out]), HB0.out.2.2⟩
            · have tn : decide ((0 : Int) < (n : Int)) = true := decide_eq_true (by omega)
              obtain ⟨rb, ro, cr', er, _, _, Ra⟩ := HRCS.out.parts (fun h => ln (by rw [HN.out, h]; rfl))
              simp only [Value.slice.injEq] at er
              obtain ⟨rfl, -, hcc⟩ := er
              subst hcc
              have RA := Lib.hid Ra
              clear Ra
              go_wp2_with fail
              go_loopw [5, 6] (fun nn i wr => ∃ (k : Nat) (z : Int), k ≤ n ∧ i = .int .i64 k ∧ nn = .int .i64 z ∧ Hid (n ≤ 1000 → z = ((sizeR (rcs.take k) : Nat) : Int)) ∧ Hid ((rcs.take k).all recOk = true) ∧ Hid (GD w wr ⟨false, 3, 2, resp, g, false, rob, every, src, rcs⟩ (.slice pu src.length cu) (.slice (some ⟨rb, ro, none⟩) rcs.length cr))) (fun _ i _ => n - (intOf i).toNat)
              case atStart => exact ⟨0, 8, by omega, rfl, rfl, Lib.hid (fun _ => rfl), Lib.hid (by simp), H0⟩
              case round =>
                obtain ⟨k, z, hk, rfl, rfl, HZZ, HA, HB⟩ := hrel
                by_cases hlt : k < n
                · have g1 : k < rcs.length := by rw [← HN.out]; exact hlt
                  obtain ⟨u, hu⟩ := (RA.out k g1).u
                  have hu2 := hu.below HB.out.2.2
                  have r1 := hu2.2.2.1
                  obtain ⟨ho, hlt2, _, ha⟩ := hu2
                  clear hu
                  obtain ⟨pp, cc, eu, hlu, hlm⟩ := ha.len
                  subst eu
                  have HBX := Lib.hid (RcU.boxed (cs := #[.int .i64 0, .bool false, .int .u8 0, .int .u8 0, .int .u8 0, .int .u8 0, .int .u8 0, .int .u8 0, .int .u8 0, .int .u8 0, .int .u8 0, .int .u8 0, .int .u8 0, .int .u8 0, .int .u8 0, .int .u8 0, .int .u8 0, .int .u8 0, .slice none 0 0]) ho ha rfl)
                  have hfok := fok_rec ho ha.one
                  have hfm := free_made wr #[.int .i64 0, .bool false, .int .u8 0, .int .u8 0, .int .u8 0, .int .u8 0, .int .u8 0, .int .u8 0, .int .u8 0, .int .u8 0, .int .u8 0, .int .u8 0, .int .u8 0, .int .u8 0, .int .u8 0, .int .u8 0, .int .u8 0, .int .u8 0, .slice none 0 0] 40 19 (by simp)
                  have HGr := Lib.hid (fun W => rgroup8_any rcs[k].g ho W)
                  have HSr := Lib.hid (fun W (h : RcU W wr.heap.size 0 rcs[k] (.slice pp rcs[k].src.length cc)) => rsources8_any (.slice pp rcs[k].src.length cc) rcs[k].src W h.2.2.2)
                  have HS1 := Lib.hid (rcs_take_succ g1 recOk)
                  have HS2 := Lib.hid (sizeR_succ g1)
                  have HLE := Lib.hid (sizeR_le HA.out)
                  have HF : Hid (recOk rcs[k] = false → rcs.all recOk = false) := Lib.hid fun h => by
                    rw [← Bool.not_eq_true, List.all_eq_true]
                    intro hx
                    have := hx _ (List.getElem_mem g1)
                    rw [h] at this
                    exact absurd this (by simp)
                  have HOK : Hid (recOk rcs[k] = (decide (1 ≤ rcs[k].kind ∧ rcs[k].kind ≤ 6) && grp8 rcs[k].g && srcs8 rcs[k].src)) := Lib.hid rfl
                  have hd : decide ((k : Int) < (n : Int)) = true := decide_eq_true (by omega)
                  have hk1 : (k : Int) < (n : Int) := by omega
                  have hw1 : IntKind.i64.wrap ((k : Int) + 1) = (k : Int) + 1 := by simp only [IntKind.wrap_i64]; omega
                  obtain ⟨c0, c1, c2, c3, c4, c5, c6, c7, c8, c9, c10⟩ := HGD.out _ HB.out
                  rw [← HN.out] at c9
                  clear c0 c1 c2 c3 c4 c5 c6 c7 c8 c10 ho ha hlt2
                  generalize rcs[k] = x at *
                  obtain ⟨xk, xg, xs⟩ := x
                  simp only at *
                  go_upto_region 19 with (fail)
                  generalize aggW (wr.alloc _) wr.heap.size _ = W1 at HBX ⊢
                  have H1 := Lib.hid (show GD w W1 ⟨false, 3, 2, resp, g, false, rob, every, src, rcs⟩ (.slice pu src.length cu) (.slice (some ⟨rb, ro, none⟩) rcs.length cr) ∧ RcU W1 wr.heap.size 0 ⟨xk, xg, xs⟩ (.slice pp xs.length cc) from ⟨HB.out.below HBX.out.2, HBX.out.1⟩)
                  have HQ : Hid (∀ (W1 W2 : World), (GD w W1 ⟨false, 3, 2, resp, g, false, rob, every, src, rcs⟩ (.slice pu src.length cu) (.slice (some ⟨rb, ro, none⟩) rcs.length cr) ∧ RcU W1 wr.heap.size 0 ⟨xk, xg, xs⟩ (.slice pp xs.length cc)) → Below W1.heap.size W1 W2 → (GD w W2 ⟨false, 3, 2, resp, g, false, rob, every, src, rcs⟩ (.slice pu src.length cu) (.slice (some ⟨rb, ro, none⟩) rcs.length cr) ∧ RcU W2 wr.heap.size 0 ⟨xk, xg, xs⟩ (.slice pp xs.length cc))) := Lib.hid fun W1 W2 h hb => ⟨h.1.below hb, h.2.below hb⟩
                  obtain ⟨d0, d1, d2⟩ := HRC.out _ _ _ _ H1.out.2
                  simp only at d0 d1 d2
                  clear HBX hfm hfok r1 c9 HB q
                  by_cases k1 : xk < 1
                  · have t1 : decide (xk < 1) = true := decide_eq_true k1
                    have HV : Hid (R = false) := Lib.hid (by rw [HRV.out, HF.out (by rw [HOK.out, decide_eq_false (show ¬ (1 ≤ xk ∧ xk ≤ 6) by omega)]; rfl)]; rfl)
                    clear HF HOK HS1 k1
                    go_wp2
                    go_ret
                    exact ⟨ret_bool8 (by rw [HV.out]), H1.out.1.2.2⟩
                  have t1 : decide (xk < 1) = false := decide_eq_false k1
                  by_cases k6 : 6 < xk
                  · have t6 : decide (6 < xk) = true := decide_eq_true k6
                    have HV : Hid (R = false) := Lib.hid (by rw [HRV.out, HF.out (by rw [HOK.out, decide_eq_false (show ¬ (1 ≤ xk ∧ xk ≤ 6) by omega)]; rfl)]; rfl)
                    clear HF HOK HS1
                    go_wp2
                    go_ret
                    exact ⟨ret_bool8 (by rw [HV.out]), H1.out.1.2.2⟩
                  have t6 : decide (6 < xk) = false := decide_eq_false k6
                  rw [decide_eq_true (show 1 ≤ xk ∧ xk ≤ 6 by omega), Bool.true_and] at HOK
                  cases hgx : grp8 xg with
                  | false =>
                    rw [hgx] at HGr HOK
                    have HV : Hid (R = false) := Lib.hid (by rw [HRV.out, HF.out (by rw [HOK.out]; rfl)]; rfl)
                    clear HF HOK HS1 hgx
                    go_wp2_with (go_at_call 35; (with_reducible refine (HGr.out _).mono ?_); rintro x w1 ⟨rfl, hb1⟩; have G1 := Lib.hid (HQ.out _ _ H1.out hb1); clear hb1 d0 d1 d2; obtain ⟨d0, d1, d2⟩ := HRC.out _ _ _ _ G1.out.2; simp only at d0 d1 d2)
                    go_ret
                    exact ⟨ret_bool8 (by rw [HV.out]), G1.out.1.2.2⟩
                  | true =>
                    rw [hgx] at HGr HOK
                    cases hsx : srcs8 xs with
                    | false =>
                      rw [hsx] at HSr HOK
                      have HV : Hid (R = false) := Lib.hid (by rw [HRV.out, HF.out (by rw [HOK.out]; rfl)]; rfl)
                      clear HF HOK HS1 hgx hsx
                      go_wp2_with (first | (go_at_call 35; (with_reducible refine (HGr.out _).mono ?_); rintro x w1 ⟨rfl, hb1⟩; have G1 := Lib.hid (HQ.out _ _ H1.out hb1); clear hb1 d0 d1 d2; obtain ⟨d0, d1, d2⟩ := HRC.out _ _ _ _ G1.out.2; simp only at d0 d1 d2) | (go_at_call 36; (with_reducible refine (HSr.out _ G1.out.2).mono ?_); rintro x w2 ⟨rfl, hb2⟩; have G2 := Lib.hid (HQ.out _ _ G1.out hb2); clear hb2 d0 d1 d2; obtain ⟨d0, d1, d2⟩ := HRC.out _ _ _ _ G2.out.2; simp only at d0 d1 d2))
                      go_ret
                      exact ⟨ret_bool8 (by rw [HV.out]), G2.out.1.2.2⟩
                    | true =>
                      rw [hsx] at HSr HOK
                      have hx64 := srcs8_len hsx
                      have HA2 : Hid ((rcs.take (k + 1)).all recOk = true) := Lib.hid (by rw [HS1.out, HA.out, HOK.out]; rfl)
                      have HS3 : Hid (n ≤ 1000 → ((sizeR (rcs.take (k + 1)) : Nat) : Int) = z + 8 + 4 * (xs.length : Int) ∧ 0 ≤ z ∧ z ≤ 1000000 ∧ (xs.length : Int) < 65) := Lib.hid (fun h => by have h1 := HZZ.out h; have h2 := HS2.out; have := HLE.out; rw [List.length_take] at this; omega)
                      clear HF HOK HS1 HS2 hgx hsx HA HLE HZZ hx64
                      go_wp2_with (first | (go_at_call 35; (with_reducible refine (HGr.out _).mono ?_); rintro x w1 ⟨rfl, hb1⟩; have G1 := Lib.hid (HQ.out _ _ H1.out hb1); clear hb1 d0 d1 d2; obtain ⟨d0, d1, d2⟩ := HRC.out _ _ _ _ G1.out.2; simp only at d0 d1 d2) | (go_at_call 36; (with_reducible refine (HSr.out _ G1.out.2).mono ?_); rintro x w2 ⟨rfl, hb2⟩; have G2 := Lib.hid (HQ.out _ _ G1.out hb2); clear hb2 d0 d1 d2; obtain ⟨d0, d1, d2⟩ := HRC.out _ _ _ _ G2.out.2; simp only at d0 d1 d2))
                      go_roundw
                      case rel =>
                        refine ⟨k + 1, _, by omega, by go_num, rfl, Lib.hid (fun h => ?_), HA2, Lib.hid G2.out.1⟩
                        have := HS3.out h
                        simp only [IntKind.wrap_i64, wrap64]
                        omega
                      case measure => simp [intOf]; omega
                · have hd : ¬ (k : Int) < (n : Int) := by omega
                  have HA2 : Hid (rcs.all recOk = true) := Lib.hid (by
                    have e := HA.out
                    rw [List.take_of_length_le (by rw [← HN.out]; omega)] at e
                    exact e)
                  have HZ : Hid (sizeR (rcs.take k) = sizeR rcs) := Lib.hid (by rw [List.take_of_length_le (by rw [← HN.out]; omega)])
                  have HB0 := Lib.hid HB.out
                  clear hlt
                  obtain ⟨c0, c1, c2, c3, c4, c5, c6, c7, c8, c9, c10⟩ := HGD.out _ HB.out
                  rw [← HN.out] at c9
                  by_cases zg : g = zeroA
                  · rw [decide_eq_true zg] at q
                    subst zg
                    by_cases l65 : n < 65
                    · have tl : decide ((n : Int) < 65) = true := decide_eq_true (by omega)
                      have HV : Hid (R = decide (z < 1401)) := Lib.hid (by
                        rw [HRV.out, HA2.out, ← HZ.out, ← HN.out, HZZ.out (by omega)]
                        simp only [Bool.true_and, decide_true, l65]
                        rw [Bool.eq_iff_iff]; simp; omega)
                      clear l65 HZZ
                      by_cases hz : z < 1401
                      · have tz : decide (z < 1401) = true := decide_eq_true hz
                        rw [tz] at HV
                        go_wp2
                        go_ret
                        exact ⟨ret_bool8 (by rw [HV.out]; try (first | exact tz | exact tz.symm)), HB0.out.2.2⟩
                      · have tz : decide (z < 1401) = false := decide_eq_false hz
                        rw [tz] at HV
                        go_wp2
                        go_ret
                        exact ⟨ret_bool8 (by rw [HV.out]; try (first | exact tz | exact tz.symm)), HB0.out.2.2⟩
                    · have tl : decide ((n : Int) < 65) = false := decide_eq_false (by omega)
                      have HV : Hid (R = false) := Lib.hid (by
                        rw [HRV.out, ← HN.out, decide_eq_false l65]; simp)
                      clear l65 HZZ
                      go_wp2
                      go_ret
                      exact ⟨ret_bool8 (by rw [HV.out]), HB0.out.2.2⟩
                  · rw [decide_eq_false zg] at q
                    have HV : Hid (R = false) := Lib.hid (by
                        rw [HRV.out, decide_eq_false zg]; simp)
                    clear zg HZZ
                    go_wp2
                    go_ret
                    exact ⟨ret_bool8 (by rw [HV.out]), HB0.out.2.2⟩
          · have tresp : (resp != 0) = true := by simp [zresp]
            have HR := Lib.hid (show R = false by rw [hR]; simp [good8, zrob, zevery, lsrc, zresp])
            clear hR
            go_wp2
            go_ret
            exact ⟨ret_bool8 (by rw [HR.out]), H0.out.2.2⟩
        · have psrc : 0 < src.length := Nat.pos_of_ne_zero lsrc
          have tsrc : decide ((0 : Int) < (src.length : Int)) = true := by simp; omega
          have vsrc : decide (0 < src.length) = true := by simp; omega
          have HR := Lib.hid (show R = false by rw [hR]; simp [good8, zrob, zevery, psrc])
          clear hR
          go_wp2
          go_ret
          exact ⟨ret_bool8 (by rw [HR.out]), H0.out.2.2⟩
      · have tevery : (every != 0) = true := by simp [zevery]
        have HR := Lib.hid (show R = false by rw [hR]; simp [good8, zrob, zevery])
        clear hR
        go_wp2
        go_ret
        exact ⟨ret_bool8 (by rw [HR.out]), H0.out.2.2⟩
    · have trob : (rob != 0) = true := by simp [zrob]
      have HR := Lib.hid (show R = false by rw [hR]; simp [good8, zrob])
      clear hR
      go_wp2
      go_ret
      exact ⟨ret_bool8 (by rw [HR.out]), H0.out.2.2⟩

end Go.Proofs.Ytacnhelnpngkgaa
