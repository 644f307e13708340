/-
  The contract of ip4.Hop.
-/
import Derived.Test.YtbmacnbegbcgpaaIpS
import Derived.Test.YtbmacnbegbcgpaaIpQ
namespace Go.Proofs.Ytbmacnbegbcgpaa
open Go.RowKit
set_option linter.unusedVariables false
attribute [local go_sem ↓] bld_ip ld_ip st_ip ld_addr st_addr
attribute [local go_sem] ldr_ip str_ip ldr_addr str_addr

/-- A packet made later. -/
def I1 (w W : World) (m : Nat) (p : Ip) : Prop := IpAt W m p ∧ Below w.heap.size w W ∧ w.heap.size ≤ m ∧ p.ok
theorem I1.below {w W W' : World} {m : Nat} {p : Ip} (h : I1 w W m p) (hb : Below W.heap.size W W') : I1 w W' m p := ⟨h.1.below hb, bstep h.2.1 hb, h.2.2.1, h.2.2.2⟩
theorem I1.drewN {w W : World} {m : Nat} {p : Ip} (h : I1 w W m p) (d : Nat) : I1 w (W.drewN d) m p := h.below (bdrewN (Below.refl _ _) d)
theorem I1.made {w W : World} (h : Below w.heap.size w W) (p : Ip) (ho : p.ok) : I1 w (aggW (W.alloc (.cells (ipC zeroI).toArray 26)) W.heap.size (ipC p)) W.heap.size p :=
  ⟨aggW_obj (ObjAt.made W (ipC zeroI).toArray 26) (by rw [ipC_length ho, ipC_length zeroI_ok]) (ipC_one p), aggW_below (h.alloc h.size _) h.size _, h.size, ho⟩
theorem I1.setTtl {w W : World} {m : Nat} {p : Ip} (h : I1 w W m p) (n : Int) : I1 w (W.setCell ⟨m, 2, none⟩ (.int .i64 n)) m { p with ttl := n } := by
  obtain ⟨h1, h2, h3, h4⟩ := h
  refine ⟨?_, h2.setCell (p := ⟨m, 2, none⟩) h3 _, h3, h4⟩
  have := ObjAt.set h1 2 (.int .i64 n)
  rw [show (ipC p).toArray.setIfInBounds 2 (.int .i64 n) = (ipC { p with ttl := n }).toArray by unfold ipC; simp] at this
  exact this
def hopV (s : List UInt8) : List UInt8 × Int := if why5 s ≠ 0 then ([], why5 s) else if by8 s 8 = 0 then ([], 8) else (hopL s, 0)

set_option maxRecDepth 100000 in
set_option maxHeartbeats 2000000 in
theorem hop_bad (s : List UInt8) (hs : s.length ≤ 100000) (h : why5 s ≠ 0) (w : World) :
    Calls Try.prog 16 #[.string (Str s)] w fun x w' => x = .returned (.tuple #[.string ⟨#[]⟩, .int .i64 (why5 s)]) ∧ Below w.heap.size w w' := by
  have HR := Lib.hid (fun W => read5_any s hs W)
  rw [show readV5 s = (zeroI, why5 s) by unfold readV5; rw [if_neg h]] at HR
  have hne : (why5 s != 0) = true := by simpa using h
  have hfok := fok_ip zeroI_ok
  generalize why5 s = c at *
  clear hs h
  go_enter Try.func16, Try.ntmps16
  go_wp2_with (go_at_call 12; (with_reducible refine (HR.out _).mono ?_); rintro x w1 ⟨rfl, hb1⟩; have hf1 := free_made w1 #[.int .i64 0, .int .i64 0, .int .i64 0, .int .i64 0, .bool false, .int .u8 0, .int .u8 0, .int .u8 0, .int .u8 0, .int .u8 0, .int .u8 0, .int .u8 0, .int .u8 0, .int .u8 0, .int .u8 0, .int .u8 0, .int .u8 0, .int .u8 0, .int .u8 0, .int .u8 0, .int .u8 0, .bool false, .int .u8 0, .int .u8 0, .int .u8 0, .int .u8 0, .int .u8 0, .int .u8 0, .int .u8 0, .int .u8 0, .int .u8 0, .int .u8 0, .int .u8 0, .int .u8 0, .int .u8 0, .int .u8 0, .int .u8 0, .int .u8 0, .bool false, .string ⟨#[]⟩] 26 40 (by simp); have h1 := I1.made hb1 zeroI zeroI_ok; rw [zeroI_cells] at h1; have H1 := Lib.hid h1; clear hb1 h1)
  go_ret2
  exact ⟨rfl, H1.out.2.1⟩

set_option maxRecDepth 100000 in
set_option maxHeartbeats 2000000 in
theorem hop_end (s : List UInt8) (hs : s.length ≤ 100000) (h : why5 s = 0) (ht : by8 s 8 = 0) (w : World) :
    Calls Try.prog 16 #[.string (Str s)] w fun x w' => x = .returned (.tuple #[.string ⟨#[]⟩, .int .i64 8]) ∧ Below w.heap.size w w' := by
  have HR := Lib.hid (fun W => read5_any s hs W)
  rw [show readV5 s = (ipOf s, 0) by unfold readV5; rw [if_pos h]] at HR
  have ho := ipOf_ok s
  have hfok := fok_ip ho
  have ht0 : (ipOf s).ttl = 0 := by unfold ipOf; simp only; omega
  have HO := Lib.hid ho
  have HT := Lib.hid ht0
  generalize ipOf s = E at *
  clear hs h ht ho ht0
  go_enter Try.func16, Try.ntmps16
  go_wp2_with (go_at_call 12; (with_reducible refine (HR.out _).mono ?_); rintro x w1 ⟨rfl, hb1⟩; have hf1 := free_made w1 #[.int .i64 0, .int .i64 0, .int .i64 0, .int .i64 0, .bool false, .int .u8 0, .int .u8 0, .int .u8 0, .int .u8 0, .int .u8 0, .int .u8 0, .int .u8 0, .int .u8 0, .int .u8 0, .int .u8 0, .int .u8 0, .int .u8 0, .int .u8 0, .int .u8 0, .int .u8 0, .int .u8 0, .bool false, .int .u8 0, .int .u8 0, .int .u8 0, .int .u8 0, .int .u8 0, .int .u8 0, .int .u8 0, .int .u8 0, .int .u8 0, .int .u8 0, .int .u8 0, .int .u8 0, .int .u8 0, .int .u8 0, .int .u8 0, .int .u8 0, .bool false, .string ⟨#[]⟩] 26 40 (by simp); have h1 := I1.made hb1 E HO.out; rw [zeroI_cells] at h1; have c2 := h1.1.ttl; rw [HT.out] at c2; have H1 := Lib.hid h1; clear hb1 h1)
  go_ret2
  exact ⟨rfl, H1.out.2.1⟩

set_option maxRecDepth 100000 in
set_option maxHeartbeats 4000000 in
theorem hop_good (s : List UInt8) (hs : s.length ≤ 100000) (h : why5 s = 0) (ht : by8 s 8 ≠ 0) (w : World) :
    Calls Try.prog 16 #[.string (Str s)] w fun x w' => x = .returned (.tuple #[.string (Str (hopL s)), .int .i64 0]) ∧ Below w.heap.size w w' := by
  obtain ⟨hE, _⟩ := why5_zero h
  obtain ⟨a1, _, _, _, _, _⟩ := hdE_zero hE
  have HR := Lib.hid (fun W => read5_any s hs W)
  rw [show readV5 s = (ipOf s, 0) by unfold readV5; rw [if_pos h]] at HR
  have ho := ipOf_ok s
  have hfok := fok_ip ho
  have l8 := by8_lt s 8
  have l9 := by8_lt s 9
  have ht0 : (ipOf s).ttl = (by8 s 8 : Int) := rfl
  have hp0 : (ipOf s).pro = (by8 s 9 : Int) := rfl
  have l10 := wd_lt s 10 (by omega)
  have hL : hopL s = s.take 8 ++ (putL (256 * (by8 s 8 - 1) + by8 s 9) 2 ++ (putL (updN (wd s 10) (256 * by8 s 8 + by8 s 9) (256 * (by8 s 8 - 1) + by8 s 9)) 2 ++ s.drop 12)) := rfl
  have HW : Hid (∀ W, Calls Try.prog 26 #[.string (Str s), .int .i64 10] W fun x w' => x = .returned (.int .i64 (wd s 10)) ∧ Below W.heap.size W w') := Lib.hid fun W => (word5_any s 10 (by omega) (by omega) W).mono fun x w' h => ⟨h.1, bsame (Below.refl _ _) h.2⟩
  have HH1 := Lib.hid (fun W => hopw_any (ipOf s) ho (by8 s 8) (by8 s 9) ht0 hp0 l8 l9 W)
  have ho2 : ({ ipOf s with ttl := (by8 s 8 : Int) - 1 } : Ip).ok := ho
  have HH2 := Lib.hid (fun W => hopw_any { ipOf s with ttl := (by8 s 8 : Int) - 1 } ho2 (by8 s 8 - 1) (by8 s 9) (by simp only; omega) hp0 (by omega) l9 W)
  have hwm : IntKind.i64.wrap ((by8 s 8 : Int) - 1) = (by8 s 8 : Int) - 1 := by simp only [IntKind.wrap_i64]; omega
  have hz : ((by8 s 8 : Int) == 0) = false := by simp; omega
  have HU : Hid (∀ W, Calls Try.prog 35 #[.int .i64 (wd s 10), .int .i64 ((256 * by8 s 8 + by8 s 9 : Nat) : Int), .int .i64 ((256 * (by8 s 8 - 1) + by8 s 9 : Nat) : Int)] W fun e w' => e = .returned (.int .i64 (updN (wd s 10) (256 * by8 s 8 + by8 s 9) (256 * (by8 s 8 - 1) + by8 s 9) : Nat)) ∧ Below W.heap.size W w') := Lib.hid fun W => by
    have := update_any (wd s 10) ((256 * by8 s 8 + by8 s 9 : Nat) : Int) ((256 * (by8 s 8 - 1) + by8 s 9 : Nat) : Int) W
    rw [show ((wd s 10 : Int) % 65536).toNat = wd s 10 by omega, show (((256 * by8 s 8 + by8 s 9 : Nat) : Int) % 65536).toNat = 256 * by8 s 8 + by8 s 9 by omega, show (((256 * (by8 s 8 - 1) + by8 s 9 : Nat) : Int) % 65536).toNat = 256 * (by8 s 8 - 1) + by8 s 9 by omega] at this
    exact this.mono fun x w' h => ⟨h.1, bsame (Below.refl _ _) h.2⟩
  have hC : updN (wd s 10) (256 * by8 s 8 + by8 s 9) (256 * (by8 s 8 - 1) + by8 s 9) ≤ 65535 := by unfold updN; omega
  generalize updN (wd s 10) (256 * by8 s 8 + by8 s 9) (256 * (by8 s 8 - 1) + by8 s 9) = C at *
  have HP1 := Lib.hid (fun W => put5_any (256 * (by8 s 8 - 1) + by8 s 9) (by omega) W)
  have HP2 := Lib.hid (fun W => put5_any C (by omega) W)
  have hsz := Str_size s
  have hx1 : (Str s).extract 0 8 = Str (s.take 8) := by rw [Str_extract]; simp
  have hx2 : (Str s).extract 12 s.length = Str (s.drop 12) := by rw [Str_extract, List.take_of_length_le (by simp)]
  have hi8 : (8 : Int) ≤ (s.length : Int) := by omega
  have hi12 : (12 : Int) ≤ (s.length : Int) := by omega
  have z1 := putL_length (256 * (by8 s 8 - 1) + by8 s 9) 2
  have z2 := putL_length C 2
  generalize putL (256 * (by8 s 8 - 1) + by8 s 9) 2 = s1 at *
  generalize putL C 2 = s2 at *
  have d1 := run_cat (P := Try.prog) (s.take 8) s1 (by simp; omega)
  have d2 := run_cat (P := Try.prog) (s.take 8 ++ s1) s2 (by simp; omega)
  have d3 := run_cat (P := Try.prog) (s.take 8 ++ (s1 ++ s2)) (s.drop 12) (by simp; omega)
  simp only [List.append_assoc] at d2 d3
  rw [← hL] at d3
  generalize hopL s = HL at *
  generalize 256 * (by8 s 8 - 1) + by8 s 9 = NW at *
  generalize 256 * by8 s 8 + by8 s 9 = OL at *
  generalize ipOf s = E at *
  generalize wd s 10 = c10 at *
  generalize by8 s 8 = t8 at *
  generalize by8 s 9 = p9 at *
  have HO := Lib.hid ho
  have HT := Lib.hid ht0
  obtain ⟨F, hF⟩ : ∃ F : Ip, F = { E with ttl := (t8 : Int) - 1 } := ⟨_, rfl⟩
  rw [← hF] at HH2 ho2
  have HF := Lib.hid hF
  have HO2 := Lib.hid ho2
  have HK : Hid (∀ (W : World) (m : Nat), I1 w W m F → row? W m 0 40 = some (ipC F) ∧ I1 w W m F) := Lib.hid fun W m h => ⟨h.1.row h.2.2.2, h⟩
  clear hs h ht ho ho2 ht0 hp0 hE a1 l8 l9 l10 hL hC z1 z2 hF
  go_enter Try.func16, Try.ntmps16
  go_upto_region 2 with (go_at_call 12; (with_reducible refine (HR.out _).mono ?_); rintro x w1 ⟨rfl, hb1⟩; have hf1 := free_made w1 #[.int .i64 0, .int .i64 0, .int .i64 0, .int .i64 0, .bool false, .int .u8 0, .int .u8 0, .int .u8 0, .int .u8 0, .int .u8 0, .int .u8 0, .int .u8 0, .int .u8 0, .int .u8 0, .int .u8 0, .int .u8 0, .int .u8 0, .int .u8 0, .int .u8 0, .int .u8 0, .int .u8 0, .bool false, .int .u8 0, .int .u8 0, .int .u8 0, .int .u8 0, .int .u8 0, .int .u8 0, .int .u8 0, .int .u8 0, .int .u8 0, .int .u8 0, .int .u8 0, .int .u8 0, .int .u8 0, .int .u8 0, .int .u8 0, .int .u8 0, .bool false, .string ⟨#[]⟩] 26 40 (by simp); have h1 := I1.made hb1 E HO.out; rw [zeroI_cells] at h1; have H1 := Lib.hid h1; clear hb1 h1)
  generalize aggW (w1.alloc (.cells #[.int .i64 0, .int .i64 0, .int .i64 0, .int .i64 0, .bool false, .int .u8 0, .int .u8 0, .int .u8 0, .int .u8 0, .int .u8 0, .int .u8 0, .int .u8 0, .int .u8 0, .int .u8 0, .int .u8 0, .int .u8 0, .int .u8 0, .int .u8 0, .int .u8 0, .int .u8 0, .int .u8 0, .bool false, .int .u8 0, .int .u8 0, .int .u8 0, .int .u8 0, .int .u8 0, .int .u8 0, .int .u8 0, .int .u8 0, .int .u8 0, .int .u8 0, .int .u8 0, .int .u8 0, .int .u8 0, .int .u8 0, .int .u8 0, .int .u8 0, .bool false, .string ⟨#[]⟩] 26)) w1.heap.size _ = W1 at H1 ⊢
  clear hf1
  generalize w1.heap.size = m at H1 ⊢
  have c2 := H1.out.1.ttl
  rw [HT.out] at c2
  have hr := H1.out.1.row HO.out
  go_upto_region 7 with (go_at_call 18; (with_reducible refine (HH1.out _).mono ?_); rintro x w2 ⟨rfl, hb2⟩; have H2 := Lib.hid (H1.out.below hb2); clear hb2 hr c2)
  have c2 := H2.out.1.ttl
  rw [HT.out] at c2
  have f2 := IpAt.frz H2.out.1 2
  have H3 := Lib.hid (show I1 w (w2.setCell ⟨m, 2, none⟩ (.int .i64 ((t8 : Int) - 1))) m F by rw [HF.out]; exact H2.out.setTtl _)
  go_upto_region 8 with (fail)
  generalize World.setCell _ _ _ = W3 at H3 ⊢
  clear c2 f2
  go_region_held3 (fun W => row? W m 0 40 = some (ipC F) ∧ I1 w W m F) (first | assumption | exact HK.out _ _ H3.out | exact HK.out _ _ (H3.out.drewN 1)) (first
    | (go_at_call 26; (with_reducible refine (HW.out _).mono ?_); rintro x w4 ⟨rfl, hb4⟩; have hk := HK.out _ _ (I1.below (And.right (by assumption)) hb4); clear hb4)
    | (go_at_call 18; (with_reducible refine (HH2.out _).mono ?_); rintro x w4 ⟨rfl, hb4⟩; have hk := HK.out _ _ (I1.below (And.right (by assumption)) hb4); clear hb4)
    | (go_at_call 35; (with_reducible refine (HU.out _).mono ?_); rintro x w4 ⟨rfl, hb4⟩; have hk := HK.out _ _ (I1.below (And.right (by assumption)) hb4); clear hb4))
  have H5 := Lib.hid hk.2
  clear hk
  go_upto_region 9 with (fail)
  go_region_held3 (fun W => row? W m 0 40 = some (ipC F) ∧ I1 w W m F) (first | assumption | exact HK.out _ _ H5.out | exact HK.out _ _ (H5.out.drewN 1)) (first
    | (go_at_call 18; (with_reducible refine (HH2.out _).mono ?_); rintro x w4 ⟨rfl, hb4⟩; have hk := HK.out _ _ (I1.below (And.right (by assumption)) hb4); clear hb4)
    | (go_at_call 17; (with_reducible refine (HP1.out _).mono ?_); rintro x w4 ⟨rfl, hb4⟩; have hk := HK.out _ _ (I1.below (And.right (by assumption)) hb4); clear hb4)
    | (go_at_call 17; (with_reducible refine (HP2.out _).mono ?_); rintro x w4 ⟨rfl, hb4⟩; have hk := HK.out _ _ (I1.below (And.right (by assumption)) hb4); clear hb4))
  go_wp2_with fail
  go_ret2
  exact ⟨rfl, hk.2.2.1⟩
end Go.Proofs.Ytbmacnbegbcgpaa
