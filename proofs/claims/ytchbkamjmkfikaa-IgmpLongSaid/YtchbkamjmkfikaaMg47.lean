/-
  Texts joined: TlN, TlO.
-/
import Derived.Test.YtchbkamjmkfikaaMg45
import Derived.Test.YtchbkamjmkfikaaTlM
import Derived.Test.YtchbkamjmkfikaaMg20
/-
  Talks of many sources or records: whether they are good, and what is read of their bytes. The walk of the law IgmpLong.
-/
namespace Go.Proofs.Ytchbkamjmkfikaa
open Go.RowKit
set_option linter.unusedVariables false
attribute [local go_sem ↓] ld_addr st_addr bld_addr ld_tk st_tk bld_tk
attribute [local go_sem] ldr_addr str_addr ldr_tk str_tk

theorem long_q (t : TK) (ho : t.ok) (h3 : t.ver = 3) (hk1 : t.kind = 1) (hg : grp8 t.g = true) (hl : 64 < t.src.length) (hl2 : t.src.length < 65536) (hs : secT t < 256) : readT (wrtT t) = (zeroT, 6) := by
  have hc2 := codeN_le t.every 16 255
  obtain ⟨b0, b1, bl, H, hH, hW⟩ := wrtT_parts t (kindT_lt t) hs
  have hsum := wrtT_sum t
  have hR : restT t = adB t.g ++ (putL (flagT t) 1 ++ (putL (codeN t.every 16 255) 1 ++ (putL t.src.length 2 ++ listL t.src))) := by unfold restT; rw [if_neg (by omega), if_pos ⟨hk1, h3⟩]
  obtain ⟨g1, g2⟩ := grp_back (X := putL (flagT t) 1 ++ (putL (codeN t.every 16 255) 1 ++ (putL t.src.length 2 ++ listL t.src))) hH ho.1 (Or.inr hg)
  rw [← hR, ← hW] at g1
  have e8 : wrtT t = (H ++ adB t.g) ++ (putL (flagT t) 1 ++ (putL (codeN t.every 16 255) 1 ++ (putL t.src.length 2 ++ listL t.src))) := by rw [hW, hR]; simp
  have l8 : (H ++ adB t.g).length = 8 := by simp [hH, g2]
  have w10 : wd (wrtT t) 10 = t.src.length := by
    have := wd_at (H ++ adB t.g) (putL (flagT t) 1 ++ (putL (codeN t.every 16 255) 1 ++ (putL t.src.length 2 ++ listL t.src))) 2
    rw [← e8, l8] at this
    rw [show 10 = 8 + 2 from rfl, this, putL_one, putL_one, putL_tw]
    have h := num2_putL t.src.length (by omega)
    rw [putL_tw] at h
    exact h
  have hlen : 12 ≤ (wrtT t).length := by rw [e8]; simp [hH, g2, putL_length]; omega
  have hk : kindT t = 17 := by unfold kindT; rw [if_neg (by omega), if_neg (by omega)]
  unfold readT
  rw [if_neg (by omega), if_neg (by rw [hsum]; simp), b0, hk, if_pos rfl]
  unfold qry srcsE
  rw [g1, w10, if_neg (by omega), if_neg (by rintro ⟨_, h2⟩; rw [hg] at h2; exact absurd h2 (by simp)), if_neg (by omega), if_neg (by rintro ⟨h1, _⟩; rw [h1] at hg; exact absurd hg (by decide)), if_pos hl, if_pos (by omega)]
theorem long_r (t : TK) (h3 : t.ver = 3) (h2 : t.kind = 2) (hl : 64 < t.rcs.length) (hl2 : t.rcs.length < 65536) (hs : secT t < 256) : readT (wrtT t) = (zeroT, 6) := by
  have hk : kindT t = 34 := by unfold kindT; rw [if_neg (by omega), if_pos h2, if_neg (by omega), if_neg (by omega)]
  obtain ⟨b0, b1, bl, H, hH, hW⟩ := wrtT_parts t (kindT_lt t) hs
  have hsum := wrtT_sum t
  have hR : restT t = putL t.rcs.length 4 ++ (t.rcs.map recB).flatten := by unfold restT; rw [if_pos ⟨h2, h3⟩]
  have hp4 : putL t.rcs.length 4 = [0, 0] ++ putL t.rcs.length 2 := by
    rw [putL_tw]
    simp only [putL, List.cons_append, List.nil_append, List.cons.injEq, and_true]
    refine ⟨?_, ?_, ?_, ?_⟩ <;>
    first
    | trivial
    | (apply UInt8.toNat_inj.1
       simp only [UInt8.toNat_ofNat', UInt8.toNat_zero]
       omega)
  have hw6 : wd (wrtT t) 6 = t.rcs.length := by
    rw [hW, hR, hp4]
    have := wd_at (H ++ [0, 0]) (putL t.rcs.length 2 ++ (t.rcs.map recB).flatten) 0
    have h6 : (H ++ ([0, 0] : List UInt8)).length + 0 = 6 := by simp [hH]
    rw [h6] at this
    rw [show H ++ ([0, 0] ++ putL t.rcs.length 2 ++ (t.rcs.map recB).flatten) = H ++ [0, 0] ++ (putL t.rcs.length 2 ++ (t.rcs.map recB).flatten) by simp, this]
    unfold wd
    rw [List.drop_zero, take_app (putL_length _ 2), num2_putL _ (by omega)]
  have hlen : 8 ≤ (wrtT t).length := by rw [bl, hR, List.length_append, putL_length]; omega
  unfold readT
  rw [if_neg (by omega), if_neg (by rw [hsum]; simp), b0, hk, if_neg (by omega), if_pos rfl, hw6, if_pos hl]
theorem grp_gA : grp8 gA = true := by decide
theorem exact0 : exactN 0 16 255 = true := by
  have := exact_valN 0 16 255 (by omega) (by omega) (by omega)
  rw [valN_zero 16 (by omega)] at this
  exact this
theorem srcA_good (i : Nat) : src8 (srcA i) = true := by
  simp [src8, srcA, goodV, ownV, ownK]
theorem repT_ok (k : Nat) : (repT k).ok := ⟨zeroA_ok, fun a h => (by cases h), fun r h => by
  obtain ⟨_, rfl⟩ := List.mem_replicate.1 h
  exact ⟨gA_ok, fun a h => by cases h⟩⟩
theorem qryT_ok (k : Nat) : (qryT k).ok := ⟨gA_ok, fun a h => by
  obtain ⟨i, _, rfl⟩ := List.mem_map.1 h
  exact srcA_ok i, fun r h => by cases h⟩
theorem sum_rep (k a : Nat) : (List.replicate k a).sum = k * a := by
  induction k with
  | zero => simp
  | succ k ih => rw [List.replicate_succ, List.sum_cons, ih, Nat.succ_mul, Nat.add_comm]
theorem repT_size (k : Nat) : sizeR (List.replicate k (⟨2, gA, []⟩ : RC)) = 8 * k + 8 := by
  unfold sizeR
  rw [List.map_replicate, sum_rep]
  simp; omega
theorem repT_good (k : Nat) (hk : k ≤ 64) : good8 (repT k) = true := by
  unfold good8
  rw [if_neg (by simp [repT]), if_neg (by simp [repT]), if_neg (by simp [repT]), if_neg (by simp [repT]), if_neg (by simp [repT]), if_pos (show (repT k).kind = 2 from rfl)]
  have h1 : (repT k).rcs.all recOk = true := by
    rw [List.all_eq_true]
    intro r hr
    obtain ⟨_, rfl⟩ := List.mem_replicate.1 hr
    decide
  have h2 := repT_size k
  rw [h1, decide_eq_true (show (repT k).g = zeroA from rfl), decide_eq_true (show (repT k).rcs.length < 65 by show (List.replicate k _).length < 65; rw [List.length_replicate]; omega), decide_eq_true (show sizeR (repT k).rcs < 1401 by show sizeR (List.replicate k _) < 1401; omega)]
  rfl
theorem repT_bad (k : Nat) (hk : 64 < k) : good8 (repT k) = false := by
  unfold good8
  rw [if_neg (by simp [repT]), if_neg (by simp [repT]), if_neg (by simp [repT]), if_neg (by simp [repT]), if_neg (by simp [repT]), if_pos (show (repT k).kind = 2 from rfl)]
  rw [decide_eq_false (show ¬ (repT k).rcs.length < 65 by show ¬ (List.replicate k _).length < 65; rw [List.length_replicate]; omega)]
  simp
theorem qryT_good (k : Nat) : good8 (qryT k) = decide (k ≤ 64) := by
  unfold good8
  have hl : (qryT k).src.length = k := by show ((List.range k).map srcA).length = k; simp
  have h1 : (qryT k).src.all src8 = true := by
    rw [List.all_eq_true]
    intro r hr
    obtain ⟨i, _, rfl⟩ := List.mem_map.1 hr
    exact srcA_good i
  rw [if_neg (by simp [qryT]), if_neg (by simp [qryT]), if_neg (by simp [qryT]), if_neg (by simp [qryT]), if_neg (by simp [qryT]), if_neg (by simp [qryT]), if_neg (by simp [qryT]), if_neg (by rintro ⟨_, h⟩; exact absurd (show grp8 gA = false from h) (by rw [grp_gA]; simp)), if_neg (by simp [qryT])]
  have hx : exactN (qryT k).resp 16 255 = true := exact0
  have hy : exactN (qryT k).every 16 255 = true := exact0
  have hz : decide ((qryT k).g ≠ zeroA) = true := show decide (gA ≠ zeroA) = true by decide
  rw [hx, hy, hz, decide_eq_true (show 0 ≤ (qryT k).rob ∧ (qryT k).rob < 8 by simp [qryT])]
  unfold srcs8
  rw [h1, hl, Bool.eq_iff_iff]
  simp; omega
theorem wrtT_rep_le (k : Nat) (hk : k ≤ 100) : (wrtT (repT k)).length ≤ 100000 := by
  obtain ⟨_, _, bl, _⟩ := wrtT_parts (repT k) (kindT_lt _) (by decide +kernel : secT (repT 0) < 256)
  have hR : restT (repT k) = putL (repT k).rcs.length 4 ++ ((repT k).rcs.map recB).flatten := by unfold restT; rw [if_pos ⟨rfl, rfl⟩]
  have h8 : (recB (⟨2, gA, []⟩ : RC)).length = 8 := by decide
  have hf : (((repT k).rcs.map recB).flatten).length = k * 8 := by
    show (((List.replicate k (⟨2, gA, []⟩ : RC)).map recB).flatten).length = k * 8
    rw [List.map_replicate, List.length_flatten, List.map_replicate, sum_rep, h8]
  rw [bl, hR, List.length_append, putL_length, hf]
  omega
theorem wrtT_qry_le (k : Nat) (hk : k ≤ 100) : (wrtT (qryT k)).length ≤ 100000 := by
  have hl := listL_le (qryT_ok k).2.1
  have hs : (qryT k).src.length = k := by show ((List.range k).map srcA).length = k; simp
  rw [hs] at hl
  have hb := adB_le (qryT_ok k).1
  have hR : restT (qryT k) = adB (qryT k).g ++ (putL (flagT (qryT k)) 1 ++ (putL (codeN (qryT k).every 16 255) 1 ++ (putL (qryT k).src.length 2 ++ listL (qryT k).src))) := by unfold restT; rw [if_neg (by simp [qryT]), if_pos ⟨rfl, rfl⟩]
  unfold wrtT
  simp [putL_length, headT_length, hR]
  omega
end Go.Proofs.Ytchbkamjmkfikaa

/-
  The walk of the law IgmpLong.
-/
namespace Go.Proofs.Ytchbkamjmkfikaa
open Go.RowKit
set_option linter.unusedVariables false
attribute [local go_sem ↓] ld_addr st_addr bld_addr ld_tk st_tk bld_tk
attribute [local go_sem] ldr_addr str_addr ldr_tk str_tk

/-- What the law asks of the talk of so many, in one. -/
structure LongOk (T : TK) (k : Nat) (rep : Bool) : Prop where
  ok : T.ok
  len : T.rcs.length ≤ 100
  many : ∀ W, Calls Try.prog 11 #[.int .i64 k, .bool rep] W fun x w' => ∃ us ur, x = .returned (.agg (tkC T us ur).toArray) ∧ Below W.heap.size W w' ∧ AdsT w' us T.src ∧ RcT w' ur T.rcs
  good : good8 T = decide (k ≤ 64)
  back : 64 < k → readT (wrtT T) = (zeroT, 6)
  wlen : (wrtT T).length ≤ 100000
  wrt : ∀ W us ur, Ads W us T.src → Rcs W ur T.rcs → Calls Try.prog 13 #[.agg (tkC T us ur).toArray] W fun x w' => x = .returned (.string (Str (wrtT T))) ∧ Below W.heap.size W w'
theorem secT_rep (k : Nat) : secT (repT k) = 0 := by unfold secT; rw [if_neg (by simp [repT])]; rfl
theorem secT_qry (k : Nat) : secT (qryT k) < 256 := by unfold secT; rw [if_pos ⟨rfl, rfl⟩]; have := codeN_le (qryT k).resp 16 255; omega
theorem long_rep (k : Nat) (hk : k ≤ 100) : LongOk (repT k) k true where
  ok := repT_ok k
  len := by show (List.replicate k _).length ≤ 100; rw [List.length_replicate]; exact hk
  many := fun W => lmany_rep k hk W
  good := by
    by_cases h : k ≤ 64
    · rw [repT_good k h, decide_eq_true h]
    · rw [repT_bad k (by omega), decide_eq_false h]
  back := fun h => long_r (repT k) rfl rfl (by show 64 < (List.replicate k _).length; rw [List.length_replicate]; exact h) (by show (List.replicate k _).length < 65536; rw [List.length_replicate]; omega) (by rw [secT_rep]; omega)
  wlen := wrtT_rep_le k hk
  wrt := fun W us ur hs hr => rwrite8_32 (repT k) us ur W zeroA_ok hr rfl rfl (by simp [repT]) (by simp [repT]) (by show (List.replicate k _).length ≤ 100; rw [List.length_replicate]; exact hk) (fun r h => by obtain ⟨_, rfl⟩ := List.mem_replicate.1 h; simp)
theorem long_qry (k : Nat) (hk : k ≤ 100) : LongOk (qryT k) k false where
  ok := qryT_ok k
  len := by simp [qryT]
  many := fun W => lmany_qry k hk W
  good := qryT_good k
  back := fun h => long_q (qryT k) (qryT_ok k) rfl rfl grp_gA (by show 64 < ((List.range k).map srcA).length; simp; exact h) (by show ((List.range k).map srcA).length < 65536; simp; omega) (secT_qry k)
  wlen := wrtT_qry_le k hk
  wrt := fun W us ur hs hr => rwrite8_31 (qryT k) us ur W gA_ok hs rfl rfl (by simp [qryT]) (by simp [qryT]) (by show ((List.range k).map srcA).length ≤ 100; simp; exact hk)

set_option maxRecDepth 100000 in
set_option maxHeartbeats 4000000 in
theorem glong_core (n : Nat) (hn : n < 256) (T : TK) (rep : Bool) (h : LongOk T (55 + n % 20) rep) (w : World) : Calls Try.prog 4 #[.int .u8 n, .bool rep] w fun x w' => x = .returned (.bool true) ∧ Below w.heap.size w w' := by
  obtain ⟨k, hk⟩ : ∃ k, k = 55 + n % 20 := ⟨_, rfl⟩
  rw [← hk] at h
  obtain ⟨r, hr⟩ : ∃ r, r = n % 20 := ⟨_, rfl⟩
  have t1 : (n : Int).tmod 20 = (r : Int) := by rw [hr]; rfl
  have t2 : (n : Int) % 20 = (r : Int) := by rw [hr]; rfl
  have y1 : IntKind.i64.wrap (r : Int) = (r : Int) := by simp only [IntKind.wrap_i64]; omega
  have y2 : IntKind.i64.wrap (55 + (r : Int)) = 55 + (r : Int) := by simp only [IntKind.wrap_i64]; omega
  have y3 : IntKind.u8.wrap (r : Int) = (r : Int) := by simp only [IntKind.wrap_u8]; omega
  have e5 : (55 : Int) + (r : Int) = (k : Int) := by omega
  have hkb : k ≤ 74 := by omega
  have HO := Lib.hid h.ok
  have HM := Lib.hid h.many
  have HWR := Lib.hid h.wrt
  have HWP := Lib.hid (fun W u r (hs : Ads W u T.src) (hr : Rcs W r T.rcs) => write8_any T u r W h.ok hs hr (by have := h.len; omega))
  obtain ⟨c, hc⟩ : ∃ c : Int, c = if good8 T = true then 0 else 2 := ⟨_, rfl⟩
  have hcc : (if good8 T = true then (0 : Int) else 2) = c := hc.symm
  rw [hcc] at HWP
  generalize (if good8 T = true then wrtT T else []) = SW at HWP
  have HRD := Lib.hid (fun W => read8_any (wrtT T) h.wlen W)
  unfold ReadQ at HRD
  obtain ⟨R, hR⟩ : ∃ R, R = (readT (wrtT T)).1 := ⟨_, rfl⟩
  obtain ⟨E, hE⟩ : ∃ E, E = (readT (wrtT T)).2 := ⟨_, rfl⟩
  rw [← hR, ← hE] at HRD
  have HL := Lib.hid (fun W => lives8_any W)
  have HS := Lib.hid (fun W ca cb (h1 : Tks W ca T) (h2 : Tks W cb T) => same_any ca cb T T W h1 h2)
  have HSZ := Lib.hid (fun W ca cb (h1 : Tks W ca zeroT) (h2 : Tks W cb zeroT) => same_any ca cb zeroT zeroT W h1 h2)
  rw [decide_eq_true rfl] at HS HSZ
  have hfm := hfm26
  have hbz := bldr_tk0
  have HGT : Hid (k ≤ 64 → c = 0 ∧ R = T ∧ E = 0) := Lib.hid fun hle => by
    have hg : good8 T = true := by rw [h.good, decide_eq_true hle]
    refine ⟨by rw [hc, if_pos hg], ?_, ?_⟩
    · rw [hR, read_wrtT T h.ok hg]
    · rw [hE, read_wrtT T h.ok hg]
  have HGF : Hid (64 < k → c = 2 ∧ R = zeroT ∧ E = 6) := Lib.hid fun hle => by
    have hg : good8 T = false := by rw [h.good, decide_eq_false (by omega)]
    refine ⟨by rw [hc, if_neg (by rw [hg]; simp)], ?_, ?_⟩
    · rw [hR, h.back hle]
    · rw [hE, h.back hle]
  generalize Str (wrtT T) = S at *
  generalize Str SW = SS at *
  clear h hc hcc hR hE hr hk
  have K2 : Hid (∀ (W : World) (m1 m2 : Nat) (u1 v1 u2 v2 : Value), TM2 w W m1 m2 T R u1 v1 u2 v2 → row? W m1 0 26 = some (tkC T u1 v1) ∧ row? W m2 0 26 = some (tkC R u2 v2)) := Lib.hid fun W m1 m2 u1 v1 u2 v2 h => ⟨h.1.tk.row, h.2.tk.row⟩
  go_enter Try.func4, Try.ntmps4
  go_upto_region 3 with (go_at_call 11; (with_reducible refine (HM.out _).mono ?_); rintro x w1 ⟨us, ur, rfl, hb1, hs1, hr1⟩; have hft := TM.fok HO.out.1 hs1.1 hr1.rcs; have H1 := Lib.hid (TM.made hb1 HO.out.1 hs1.1 hr1.rcs); clear hb1 hs1 hr1)
  generalize aggW (w1.alloc (.cells #[.bool false, .int .i64 0, .int .i64 0, .int .i64 0, .bool false, .int .u8 0, .int .u8 0, .int .u8 0, .int .u8 0, .int .u8 0, .int .u8 0, .int .u8 0, .int .u8 0, .int .u8 0, .int .u8 0, .int .u8 0, .int .u8 0, .int .u8 0, .int .u8 0, .int .u8 0, .int .u8 0, .bool false, .int .i64 0, .int .i64 0, .slice none 0 0, .slice none 0 0] 29)) w1.heap.size _ = W2 at H1 ⊢
  generalize w1.heap.size = m1 at H1 ⊢
  clear hft
  have k1 := H1.out.tk.row
  go_upto_region 4 with (first
    | (go_at_call 11; (with_reducible refine (HM.out _).mono ?_); rintro x w3 ⟨us3, ur3, rfl, hb3, hs3, hr3⟩; have H3 := Lib.hid (H1.out.below hb3); have HW3 := Lib.hid (HWP.out _ _ _ hs3.1 hr3.rcs); clear hb3 hs3 hr3 k1)
    | (go_at_call 12; (with_reducible refine (HW3.out).mono ?_); rintro x w4 ⟨rfl, hb4⟩; have H4 := Lib.hid (H3.out.below hb4); clear hb4))
  have k1 := H4.out.tk.row
  have HW4 := Lib.hid (HWR.out _ _ _ H4.out.src H4.out.rcs)
  clear HM HWP HW3
  go_upto_region 5 with (first
    | (go_at_call 13; (with_reducible refine (HW4.out).mono ?_); rintro x w5 ⟨rfl, hb5⟩; have H5 := Lib.hid (H4.out.below hb5); clear hb5 k1)
    | (go_at_call 6; (with_reducible refine (HRD.out _).mono ?_); rintro x w6 ⟨us6, ur6, rfl, hb6, ho6, hs6, hr6⟩; have hft := TM.fok ho6 hs6 hr6; have H6 := Lib.hid ((H5.out.below hb6).second ho6 hs6 hr6); clear hb6 ho6 hs6 hr6))
  generalize aggW (w6.alloc (.cells #[.bool false, .int .i64 0, .int .i64 0, .int .i64 0, .bool false, .int .u8 0, .int .u8 0, .int .u8 0, .int .u8 0, .int .u8 0, .int .u8 0, .int .u8 0, .int .u8 0, .int .u8 0, .int .u8 0, .int .u8 0, .int .u8 0, .int .u8 0, .int .u8 0, .int .u8 0, .int .u8 0, .bool false, .int .i64 0, .int .i64 0, .slice none 0 0, .slice none 0 0] 29)) w6.heap.size _ = W7 at H6 ⊢
  generalize w6.heap.size = m2 at H6 ⊢
  clear hft hfm HRD HWR HW4
  obtain ⟨k1, k2⟩ := K2.out _ _ _ _ _ _ _ H6.out
  by_cases h64 : 64 < k
  · obtain ⟨rfl, rfl, rfl⟩ := HGF.out h64
    have hd : (64 : Int) < (k : Int) := by omega
    have HX := Lib.hid (HSZ.out _ _ (tkC zeroT (.slice none 0 0) (.slice none 0 0)) H6.out.2.tks ⟨zeroA_ok, _, _, rfl, Ads.nil _, Rcs.nil _⟩)
    clear h64
    go_wp2_with (first
      | (go_at_call 8; (with_reducible refine (HX.out).mono ?_); rintro x w8 ⟨rfl, hb8⟩; have H8 := Lib.hid (bstep H6.out.1.blw hb8); clear hb8)
      | (go_at_call 10; (with_reducible refine (HL.out _).mono ?_); rintro x w9 ⟨rfl, hb9⟩; have H9 := Lib.hid (bstep H8.out hb9); clear hb9))
    go_ret
    exact ⟨rfl, H9.out⟩
  · obtain ⟨rfl, hRT, rfl⟩ := HGT.out (by omega)
    have hd : ¬ (64 : Int) < (k : Int) := by omega
    subst hRT
    have HX := Lib.hid (HS.out _ _ _ H6.out.2.tks H6.out.1.tks)
    clear h64
    go_wp2_with (first
      | (go_at_call 8; (with_reducible refine (HX.out).mono ?_); rintro x w8 ⟨rfl, hb8⟩; have H8 := Lib.hid (bstep H6.out.1.blw hb8); clear hb8)
      | (go_at_call 10; (with_reducible refine (HL.out _).mono ?_); rintro x w9 ⟨rfl, hb9⟩; have H9 := Lib.hid (bstep H8.out hb9); clear hb9))
    go_ret
    exact ⟨rfl, H9.out⟩
theorem glong (n : Nat) (hn : n < 256) (rep : Bool) (w : World) : Calls Try.prog 4 #[.int .u8 n, .bool rep] w fun x w' => x = .returned (.bool true) ∧ Below w.heap.size w w' := by
  cases rep with
  | true => exact glong_core n hn _ true (long_rep _ (by omega)) w
  | false => exact glong_core n hn _ false (long_qry _ (by omega)) w
end Go.Proofs.Ytchbkamjmkfikaa

