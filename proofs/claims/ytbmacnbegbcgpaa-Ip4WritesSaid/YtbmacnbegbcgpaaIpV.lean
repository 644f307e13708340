/-
  The document's own reading of a packet: good bytes, and any.
-/
import Derived.Test.YtbmacnbegbcgpaaIpU
namespace Go.Proofs.Ytbmacnbegbcgpaa
open Go.RowKit
set_option linter.unusedVariables false
attribute [local go_sem ↓] bld_ip ld_ip st_ip ld_addr st_addr
attribute [local go_sem] ldr_ip str_ip ldr_addr str_addr_at

theorem bld_part (b1 w4 b8 b9 : Int) (al : Bool) (S : List UInt8) (w0 : World) : (aggBuild 26 #[(0, .int .i64 b1), (1, .int .i64 w4), (2, .int .i64 b8), (3, .int .i64 b9), (6, .bool al), (7, .string (Str S))]).run Try.prog w0 = .ok (.agg (ipC ⟨b1, w4, b8, b9, false, [0, 0, 0, 0, 0, 0, 0, 0, 0, 0, 0, 0, 0, 0, 0, 0], false, [0, 0, 0, 0, 0, 0, 0, 0, 0, 0, 0, 0, 0, 0, 0, 0], al, S⟩).toArray) w0 := bld_run _ _ _ (by kernel_rfl) _
/-- .. and the packet in block m. -/
def RG (w W : World) (m : Nat) (e : Ip) : Prop := RR w W ∧ IpAt W m e ∧ w.heap.size + 1 < m ∧ e.ok
theorem RG.below {w W W' : World} {m : Nat} {e : Ip} (h : RG w W m e) (hb : Below W.heap.size W W') : RG w W' m e := ⟨h.1.below hb, h.2.1.below hb, h.2.2.1, h.2.2.2⟩
theorem RG.made {w W : World} (h : RR w W) (e : Ip) (ho : e.ok) : RG w (aggW (W.alloc (.cells (ipC zeroI).toArray 26)) W.heap.size (ipC e)) W.heap.size e := by
  have l1 := h.1.lt
  have l2 := h.2.1.lt
  exact ⟨⟨aggW_other (h.1.alloc _) _ (by omega), aggW_other (h.2.1.alloc _) _ (by omega), aggW_below (h.2.2.alloc (by omega) _) (by omega) _⟩, aggW_obj (ObjAt.made W (ipC zeroI).toArray 26) (by rw [ipC_length ho, ipC_length zeroI_ok]) (ipC_one e), l2, ho⟩
theorem over_fr (e : Ip) (ho : e.ok) (l : List UInt8) (hl : l.length = 16) : over (ipC e) 4 (addrC false l) = ipC ⟨e.tos, e.id, e.ttl, e.pro, false, l, e.t6, e.to, e.al, e.bd⟩ := by
  have h1 : (addrC e.f6 e.fr).length = 17 := by rw [addrC_length, ho.1]
  unfold over ipC
  rw [addrC_length, hl]
  simp only [List.cons_append, List.nil_append, List.take_succ_cons, List.take_zero, List.drop_succ_cons, show 4 + (16 + 1) = 17 + 4 from rfl]
  rw [← h1, List.drop_left]
theorem over_to (e : Ip) (ho : e.ok) (l : List UInt8) (hl : l.length = 16) : over (ipC e) 21 (addrC false l) = ipC ⟨e.tos, e.id, e.ttl, e.pro, e.f6, e.fr, false, l, e.al, e.bd⟩ := by
  have h1 : ([Value.int .i64 e.tos, .int .i64 e.id, .int .i64 e.ttl, .int .i64 e.pro] ++ addrC e.f6 e.fr).length = 21 := by rw [List.length_append, addrC_length, ho.1]; rfl
  have h2 : (addrC e.t6 e.to).length = 17 := by rw [addrC_length, ho.2]
  have e1 : ipC e = ([Value.int .i64 e.tos, .int .i64 e.id, .int .i64 e.ttl, .int .i64 e.pro] ++ addrC e.f6 e.fr) ++ (addrC e.t6 e.to ++ [.bool e.al, .string (Str e.bd)]) := by unfold ipC; simp
  unfold over
  rw [addrC_length, hl, e1, show 21 + (16 + 1) = 21 + 17 from rfl, ← List.drop_drop]
  conv => lhs; rw [← h1]
  rw [List.take_left, List.drop_left, ← h2, List.drop_left]
  unfold ipC
  simp
theorem RG.fr {w W : World} {m : Nat} {e : Ip} (h : RG w W m e) (l : List UInt8) (hl : l.length = 16) : RG w (aggO W m 4 (addrC false l)) m ⟨e.tos, e.id, e.ttl, e.pro, false, l, e.t6, e.to, e.al, e.bd⟩ := by
  obtain ⟨⟨h1, h2, h3⟩, h4, h5, h6⟩ := h
  refine ⟨⟨aggO_other h1 _ (by omega), aggO_other h2 _ (by omega), aggO_below h3 (by omega) _ _⟩, ?_, h5, hl, h6.2⟩
  have := aggO_obj (o := 4) (cs := addrC false l) h4 (by rw [ipC_length h6, addrC_length, hl]; omega) (addrC_one _ _)
  rw [over_fr e h6 l hl] at this
  exact this
theorem RG.to {w W : World} {m : Nat} {e : Ip} (h : RG w W m e) (l : List UInt8) (hl : l.length = 16) : RG w (aggO W m 21 (addrC false l)) m ⟨e.tos, e.id, e.ttl, e.pro, e.f6, e.fr, false, l, e.al, e.bd⟩ := by
  obtain ⟨⟨h1, h2, h3⟩, h4, h5, h6⟩ := h
  refine ⟨⟨aggO_other h1 _ (by omega), aggO_other h2 _ (by omega), aggO_below h3 (by omega) _ _⟩, ?_, h5, h6.1, hl⟩
  have := aggO_obj (o := 21) (cs := addrC false l) h4 (by rw [ipC_length h6, addrC_length, hl]; omega) (addrC_one _ _)
  rw [over_to e h6 l hl] at this
  exact this
theorem obj_free_at {w : World} {b o n : Nat} {L : Array Value} {t : TypeId} (h : ObjAt w b L t) (hn : o + n ≤ L.size) : free? w b o n = true := free_of fun j hj => by
  refine ⟨?_, h.free (o + j)⟩
  rw [h.cell (o + j), Array.getElem?_eq_getElem (by omega)]; rfl
theorem RG.free4 {w W : World} {m : Nat} {e : Ip} (h : RG w W m e) : free? W m 4 17 = true := obj_free_at h.2.1 (by simp [ipC_length h.2.2.2])
theorem RG.free21 {w W : World} {m : Nat} {e : Ip} (h : RG w W m e) : free? W m 21 17 = true := obj_free_at h.2.1 (by simp [ipC_length h.2.2.2])

theorem lt_size' {s : List UInt8} {i : Nat} (h : (i : Int) < (s.length : Int)) : i < (Str s).size := by rw [Str_size]; omega

set_option maxRecDepth 100000 in
set_option maxHeartbeats 4000000 in
theorem rread5_good (s : List UInt8) (hs : s.length ≤ 100000) (h1 : ¬ s.length < 20) (h2 : ¬ by8 s 0 / 16 ≠ 4) (h3 : ¬ hdN s < 20) (h4 : ¬ s.length < hdN s) (h5 : foldN (wsum (s.take (hdN s))) = 65535) (h6 : ¬ allN s < hdN s) (h7 : ¬ s.length < allN s) (h8 : ¬ wd s 6 % 16384 ≠ 0) (h9 : (optS s).2 = true) (h10 : ¬ 1400 < allN s - hdN s) (w : World) :
    Calls Try.prog 15 #[.string (Str s)] w fun x w' => x = .returned (.tuple #[.agg (ipC (readV5 s).1).toArray, .int .i64 (readV5 s).2]) ∧ Below w.heap.size w w' := by
  have hE9 : hdE s = 0 := hdE_of (by omega) (by omega) (by omega) (by omega) h5
  have HR := Lib.hid (show readV5 s = (ipOf s, 0) by
    unfold readV5; rw [why5_hd hE9, show bdE s = 0 by unfold bdE; rw [if_neg h6, if_neg h7, if_neg h8, if_neg (by simp [h9]), if_neg h10], if_pos rfl])
  have hsz := Str_size s
  have hq : ¬ (s.length : Int) < 20 := by omega
  have hp0 : 0 < s.length := by omega
  have hN2 : Hid (∀ W, Calls Try.prog 32 #[.string ((Str s).extract 2 4)] W fun x w' => x = .returned (.int .u64 (allN s)) ∧ w' = W) := Lib.hid fun W => rnum3 s hs 2 4 W
  have hN6 : Hid (∀ W, Calls Try.prog 32 #[.string ((Str s).extract 6 8)] W fun x w' => x = .returned (.int .u64 (wd s 6)) ∧ w' = W) := Lib.hid fun W => rnum3 s hs 6 8 W
  have hi0 : (0 : Int) < (s.length : Int) := by omega
  have hi4 : (4 : Int) ≤ (s.length : Int) := by omega
  have hi8 : (8 : Int) ≤ (s.length : Int) := by omega
  have e0 := Str_at s 0 (lt_zero hi0)
  have b0 := by8_lt s 0
  have ball := wd_lt s 2 (by omega)
  have b6 := wd_lt s 6 (by omega)
  have hdv : (by8 s 0 : Int) / 16 = ((by8 s 0 / 16 : Nat) : Int) := rfl
  have htm : (by8 s 0 : Int).tmod 16 = ((by8 s 0 % 16 : Nat) : Int) := rfl
  have hrm : (by8 s 0 : Int) % 16 = ((by8 s 0 % 16 : Nat) : Int) := rfl
  have hwv : IntKind.u8.wrap ((by8 s 0 / 16 : Nat) : Int) = ((by8 s 0 / 16 : Nat) : Int) := by simp only [IntKind.wrap_u8]; omega
  have hw8 : IntKind.u8.wrap ((by8 s 0 % 16 : Nat) : Int) = ((by8 s 0 % 16 : Nat) : Int) := by simp only [IntKind.wrap_u8]; omega
  have hwi : IntKind.i64.wrap ((by8 s 0 % 16 : Nat) : Int) = ((by8 s 0 % 16 : Nat) : Int) := by simp only [IntKind.wrap_i64]; omega
  have hw4 : IntKind.i64.wrap (4 * ((by8 s 0 % 16 : Nat) : Int)) = (hdN s : Int) := by unfold hdN; simp only [IntKind.wrap_i64]; omega
  have hw4' : 4 * ((by8 s 0 % 16 : Nat) : Int) = (hdN s : Int) := by unfold hdN; omega
  have hwa : IntKind.i64.wrap (allN s : Int) = (allN s : Int) := by unfold allN; simp only [IntKind.wrap_i64]; omega
  have hww : wrap64 (hdN s : Int) = (hdN s : Int) := IntWalk.wrap64_in _ (by unfold hdN; omega)
  have h60 : hdN s ≤ 60 := by unfold hdN; omega
  have hn0 : (0 : Int) ≤ (hdN s : Int) := by omega
  have hwn : IntKind.i64.wrap (hdN s : Int) = (hdN s : Int) := by simp only [IntKind.wrap_i64]; omega
  have hall : allN s < 65536 := ball
  have hwm : IntKind.i64.wrap ((allN s : Int) - (hdN s : Int)) = (allN s : Int) - (hdN s : Int) := by simp only [IntKind.wrap_i64]; omega
  have hn20 : (20 : Int) ≤ (hdN s : Int) := by omega
  have hexo : (Str s).extract 20 (hdN s) = Str ((s.drop 20).take (hdN s - 20)) := Str_extract s _ _
  have HAL : Hid (∀ W, Calls Try.prog 33 #[.string (Str ((s.drop 20).take (hdN s - 20)))] W fun x w' => x = .returned (.tuple #[.bool (optS s).1, .bool (optS s).2]) ∧ w' = W) := Lib.hid fun W => (ralert_any _ (by simp; omega) W).mono fun _ _ h => ⟨h.1, h.2.symm⟩
  generalize Str ((s.drop 20).take (hdN s - 20)) = SO at *
  rw [h9] at HAL
  have i1 : (1 : Int) < (s.length : Int) := by omega
  have e1 := Str_at s 1 (lt_size' i1)
  have i8 : (8 : Int) < (s.length : Int) := by omega
  have e8 := Str_at s 8 (lt_size' i8)
  have i9 : (9 : Int) < (s.length : Int) := by omega
  have e9 := Str_at s 9 (lt_size' i9)
  have u1 := by8_lt s 1; have u8 := by8_lt s 8; have u9 := by8_lt s 9
  have v1 : IntKind.i64.wrap (by8 s 1 : Int) = (by8 s 1 : Int) := by simp only [IntKind.wrap_i64]; omega
  have v8 : IntKind.i64.wrap (by8 s 8 : Int) = (by8 s 8 : Int) := by simp only [IntKind.wrap_i64]; omega
  have v9 : IntKind.i64.wrap (by8 s 9 : Int) = (by8 s 9 : Int) := by simp only [IntKind.wrap_i64]; omega
  have uw := wd_lt s 4 (by omega)
  have vw : IntKind.i64.wrap (wd s 4 : Int) = (wd s 4 : Int) := by simp only [IntKind.wrap_i64]; omega
  have hN4 : Hid (∀ W, Calls Try.prog 32 #[.string ((Str s).extract 4 6)] W fun x w' => x = .returned (.int .u64 (wd s 4)) ∧ w' = W) := Lib.hid fun W => rnum3 s hs 4 6 W
  have hi6 : (6 : Int) ≤ (s.length : Int) := by omega
  have hi16 : (16 : Int) ≤ (s.length : Int) := by omega
  have hi20 : (20 : Int) ≤ (s.length : Int) := by omega
  have hnt : (hdN s : Int) ≤ (allN s : Int) := by omega
  have htl : (allN s : Int) ≤ (s.length : Int) := by omega
  have hexb : (Str s).extract (hdN s) (allN s) = Str ((s.drop (hdN s)).take (allN s - hdN s)) := Str_extract s _ _
  have l12 : (readV ((s.drop 12).take 4)).length = 16 := readV_length _ (by simp; omega)
  have l16 : (readV ((s.drop 16).take 4)).length = 16 := readV_length _ (by simp; omega)
  have hA1 : Hid (∀ W, Calls Try.prog 34 #[.string ((Str s).extract 12 16)] W fun e w' => e = .returned (.tuple #[.agg (addrC false (readV ((s.drop 12).take 4))).toArray, .bool true]) ∧ Below W.heap.size W w') := Lib.hid fun W => by
    rw [Str_extract]
    exact rread_good false _ (by simp; omega) (by simp; omega) (by simp; omega) W
  have hA2 : Hid (∀ W, Calls Try.prog 34 #[.string ((Str s).extract 16 20)] W fun e w' => e = .returned (.tuple #[.agg (addrC false (readV ((s.drop 16).take 4))).toArray, .bool true]) ∧ Below W.heap.size W w') := Lib.hid fun W => by
    rw [Str_extract]
    exact rread_good false _ (by simp; omega) (by simp; omega) (by simp; omega) W
  have hE : ipOf s = ⟨by8 s 1, wd s 4, by8 s 8, by8 s 9, false, readV ((s.drop 12).take 4), false, readV ((s.drop 16).take 4), (optS s).1, (s.drop (hdN s)).take (allN s - hdN s)⟩ := rfl
  rw [hE] at HR
  have hok12 := fok_addr false _ l12
  have hok16 := fok_addr false _ l16
  generalize readV ((s.drop 12).take 4) = A1 at *
  generalize readV ((s.drop 16).take 4) = A2 at *
  have hbp := bld_part (by8 s 1 : Int) (wd s 4 : Int) (by8 s 8 : Int) (by8 s 9 : Int) (optS s).1 ((s.drop (hdN s)).take (allN s - hdN s))
  generalize (s.drop (hdN s)).take (allN s - hdN s) = BD at *
  generalize (optS s).1 = o1 at *
  obtain ⟨E0, hE0⟩ : ∃ E0 : Ip, E0 = ⟨by8 s 1, wd s 4, by8 s 8, by8 s 9, false, [0, 0, 0, 0, 0, 0, 0, 0, 0, 0, 0, 0, 0, 0, 0, 0], false, [0, 0, 0, 0, 0, 0, 0, 0, 0, 0, 0, 0, 0, 0, 0, 0], o1, BD⟩ := ⟨_, rfl⟩
  obtain ⟨E2, hE2⟩ : ∃ E2 : Ip, E2 = ⟨by8 s 1, wd s 4, by8 s 8, by8 s 9, false, A1, false, A2, o1, BD⟩ := ⟨_, rfl⟩
  rw [← hE2] at HR
  rw [← hE0] at hbp
  have ok0 : E0.ok := by rw [hE0]; exact ⟨rfl, rfl⟩
  have ok2 : E2.ok := by rw [hE2]; exact ⟨l12, l16⟩
  have HEE := Lib.hid (show (⟨E0.tos, E0.id, E0.ttl, E0.pro, false, A1, false, A2, E0.al, E0.bd⟩ : Ip) = E2 by rw [hE0, hE2])
  have HL12 := Lib.hid l12
  have HL16 := Lib.hid l16
  have hfok0 := fok_ip ok0
  have hfok2 := fok_ip ok2
  have HO0 := Lib.hid ok0
  have HO2 := Lib.hid ok2
  generalize wd s 4 = w4 at *
  generalize by8 s 1 = b1 at *
  generalize by8 s 8 = b8 at *
  generalize by8 s 9 = b9 at *
  clear hE0 hE2 ok0 ok2 l12 l16 u1 u8 u9 uw hE
  have hv4 : (((by8 s 0 / 16 : Nat) : Int) != 4) = false := by simp; omega
  have hq3 : decide ((hdN s : Int) < 20) = false := by simp; omega
  have hq4 : decide ((s.length : Int) < (hdN s : Int)) = false := by simp; omega
  have hnl : (hdN s : Int) ≤ (s.length : Int) := by omega
  have hex : (Str s).extract 0 (hdN s) = Str (s.take (hdN s)) := by rw [Str_extract]; simp
  have HSUM : Hid (∀ W, Calls Try.prog 31 #[.string (Str (s.take (hdN s)))] W fun e w' => e = .returned (.int .i64 (foldN (wsum (s.take (hdN s))))) ∧ w' = W) := Lib.hid fun W => (rsum_any (s.take (hdN s)) (by simp; omega) W).mono fun _ _ h => ⟨h.1, h.2.symm⟩
  have hq5 : ((foldN (wsum (s.take (hdN s))) : Int) != 65535) = false := by simp; omega
  generalize foldN (wsum (s.take (hdN s))) = sm at *
  generalize Str (s.take (hdN s)) = SH at *
  have hq6 : decide ((allN s : Int) < (hdN s : Int)) = false := by simp; omega
  have hq7 : decide ((s.length : Int) < (allN s : Int)) = false := by simp; omega
  have hfm : (wd s 6 : Int) % 16384 = ((wd s 6 % 16384 : Nat) : Int) := rfl
  have hfw : IntKind.u64.wrap ((wd s 6 % 16384 : Nat) : Int) = ((wd s 6 % 16384 : Nat) : Int) := by simp only [IntKind.wrap_u64]; omega
  have hq8 : (((wd s 6 % 16384 : Nat) : Int) != 0) = false := by simp; omega
  generalize wd s 6 % 16384 = fm at *
  have hq10 : decide ((1400 : Int) < (allN s : Int) - (hdN s : Int)) = false := by simp; omega
  generalize by8 s 0 / 16 = v at *
  generalize by8 s 0 % 16 = m at *
  generalize by8 s 0 = x at *
  generalize hdN s = n at *
  generalize allN s = t at *
  generalize wd s 6 = fr at *
  clear hs b0 ball b6 hE9
  have hfm1 : ∀ W : World, free? (W.alloc (.cells #[.int .i64 0, .int .i64 0, .int .i64 0, .int .i64 0, .bool false, .int .u8 0, .int .u8 0, .int .u8 0, .int .u8 0, .int .u8 0, .int .u8 0, .int .u8 0, .int .u8 0, .int .u8 0, .int .u8 0, .int .u8 0, .int .u8 0, .int .u8 0, .int .u8 0, .int .u8 0, .int .u8 0, .bool false, .int .u8 0, .int .u8 0, .int .u8 0, .int .u8 0, .int .u8 0, .int .u8 0, .int .u8 0, .int .u8 0, .int .u8 0, .int .u8 0, .int .u8 0, .int .u8 0, .int .u8 0, .int .u8 0, .int .u8 0, .int .u8 0, .bool false, .string ⟨#[]⟩] 26)) W.heap.size 0 40 = true := fun W => free_made W _ _ 40 (by simp)
  have hfm2 : ∀ W : World, free? (W.alloc (.cells #[.int .i64 0, .int .i64 0, .int .i64 0, .int .i64 0, .bool false, .int .u8 0, .int .u8 0, .int .u8 0, .int .u8 0, .int .u8 0, .int .u8 0, .int .u8 0, .int .u8 0, .int .u8 0, .int .u8 0, .int .u8 0, .int .u8 0, .int .u8 0, .int .u8 0, .int .u8 0, .int .u8 0, .bool false, .int .u8 0, .int .u8 0, .int .u8 0, .int .u8 0, .int .u8 0, .int .u8 0, .int .u8 0, .int .u8 0, .int .u8 0, .int .u8 0, .int .u8 0, .int .u8 0, .int .u8 0, .int .u8 0, .int .u8 0, .int .u8 0, .bool false, .string ⟨#[]⟩] 26)).drew W.heap.size 0 40 = true := fun W => free_made W _ _ 40 (by simp)
  have hfm3 : ∀ W : World, free? (W.drew.alloc (.cells #[.int .i64 0, .int .i64 0, .int .i64 0, .int .i64 0, .bool false, .int .u8 0, .int .u8 0, .int .u8 0, .int .u8 0, .int .u8 0, .int .u8 0, .int .u8 0, .int .u8 0, .int .u8 0, .int .u8 0, .int .u8 0, .int .u8 0, .int .u8 0, .int .u8 0, .int .u8 0, .int .u8 0, .bool false, .int .u8 0, .int .u8 0, .int .u8 0, .int .u8 0, .int .u8 0, .int .u8 0, .int .u8 0, .int .u8 0, .int .u8 0, .int .u8 0, .int .u8 0, .int .u8 0, .int .u8 0, .int .u8 0, .int .u8 0, .int .u8 0, .bool false, .string ⟨#[]⟩] 26)) W.heap.size 0 40 = true := fun W => free_made W.drew _ _ 40 (by simp)
  have H0 := Lib.hid (RR.start w)
  have hbz := bld_zeroI
  have hfok := fok_ip zeroI_ok
  have hf0 := free_made (w.alloc (.cells #[.int .i64 0, .int .i64 0, .int .i64 0, .int .i64 0, .bool false, .int .u8 0, .int .u8 0, .int .u8 0, .int .u8 0, .int .u8 0, .int .u8 0, .int .u8 0, .int .u8 0, .int .u8 0, .int .u8 0, .int .u8 0, .int .u8 0, .int .u8 0, .int .u8 0, .int .u8 0, .int .u8 0, .bool false, .int .u8 0, .int .u8 0, .int .u8 0, .int .u8 0, .int .u8 0, .int .u8 0, .int .u8 0, .int .u8 0, .int .u8 0, .int .u8 0, .int .u8 0, .int .u8 0, .int .u8 0, .int .u8 0, .int .u8 0, .int .u8 0, .bool false, .string ⟨#[]⟩] 26)) #[.int .i64 0, .int .i64 0, .int .i64 0, .int .i64 0, .bool false, .int .u8 0, .int .u8 0, .int .u8 0, .int .u8 0, .int .u8 0, .int .u8 0, .int .u8 0, .int .u8 0, .int .u8 0, .int .u8 0, .int .u8 0, .int .u8 0, .int .u8 0, .int .u8 0, .int .u8 0, .int .u8 0, .bool false, .int .u8 0, .int .u8 0, .int .u8 0, .int .u8 0, .int .u8 0, .int .u8 0, .int .u8 0, .int .u8 0, .int .u8 0, .int .u8 0, .int .u8 0, .int .u8 0, .int .u8 0, .int .u8 0, .int .u8 0, .int .u8 0, .bool false, .string ⟨#[]⟩] 26 40 (by simp)
  rw [show (w.alloc (.cells #[.int .i64 0, .int .i64 0, .int .i64 0, .int .i64 0, .bool false, .int .u8 0, .int .u8 0, .int .u8 0, .int .u8 0, .int .u8 0, .int .u8 0, .int .u8 0, .int .u8 0, .int .u8 0, .int .u8 0, .int .u8 0, .int .u8 0, .int .u8 0, .int .u8 0, .int .u8 0, .int .u8 0, .bool false, .int .u8 0, .int .u8 0, .int .u8 0, .int .u8 0, .int .u8 0, .int .u8 0, .int .u8 0, .int .u8 0, .int .u8 0, .int .u8 0, .int .u8 0, .int .u8 0, .int .u8 0, .int .u8 0, .int .u8 0, .int .u8 0, .bool false, .string ⟨#[]⟩] 26)).heap.size = w.heap.size + 1 by simp] at hf0
  rw [zeroI_cells] at H0
  go_enter Try.func15, Try.ntmps15
  go_upto_region 2 with (fail)
  generalize aggW ((w.alloc (.cells #[.int .i64 0, .int .i64 0, .int .i64 0, .int .i64 0, .bool false, .int .u8 0, .int .u8 0, .int .u8 0, .int .u8 0, .int .u8 0, .int .u8 0, .int .u8 0, .int .u8 0, .int .u8 0, .int .u8 0, .int .u8 0, .int .u8 0, .int .u8 0, .int .u8 0, .int .u8 0, .int .u8 0, .bool false, .int .u8 0, .int .u8 0, .int .u8 0, .int .u8 0, .int .u8 0, .int .u8 0, .int .u8 0, .int .u8 0, .int .u8 0, .int .u8 0, .int .u8 0, .int .u8 0, .int .u8 0, .int .u8 0, .int .u8 0, .int .u8 0, .bool false, .string ⟨#[]⟩] 26)).alloc (.cells #[.int .i64 0, .int .i64 0, .int .i64 0, .int .i64 0, .bool false, .int .u8 0, .int .u8 0, .int .u8 0, .int .u8 0, .int .u8 0, .int .u8 0, .int .u8 0, .int .u8 0, .int .u8 0, .int .u8 0, .int .u8 0, .int .u8 0, .int .u8 0, .int .u8 0, .int .u8 0, .int .u8 0, .bool false, .int .u8 0, .int .u8 0, .int .u8 0, .int .u8 0, .int .u8 0, .int .u8 0, .int .u8 0, .int .u8 0, .int .u8 0, .int .u8 0, .int .u8 0, .int .u8 0, .int .u8 0, .int .u8 0, .int .u8 0, .int .u8 0, .bool false, .string ⟨#[]⟩] 26)) (w.heap.size + 1) _ = W at H0 ⊢
  clear hf0
  have hr := H0.out.row
  have hf := H0.out.free
  go_wp2_with fail
  refine wp_region_held_drew (S := fun _ => True) (by kernel_rfl) (trivial) (fun hHeld => ?_)
  refine wpAnyH_take (i := 0) (oi := { dst := some 20, op := _, type := _, pos := _, after := _, guard := _ }) (v := ?v1) rfl (by kernel_rfl) (by kernel_rfl) (by kernel_rfl) (fun _ _ _ h => h) (Or.inl ⟨by rfl, ?y1⟩) (by assumption) ?r1
  case y1 => (intro w hSw; go_simp; try with_reducible rfl)
  try simp only [Act.put, List.setIfInBounds_toArray, List.set_cons_zero, List.set_cons_succ]
  refine wpAnyH_take (i := 1) (oi := { dst := some 21, op := _, type := _, pos := _, after := _, guard := _ }) (v := ?v2) rfl (by kernel_rfl) (by kernel_rfl) (by kernel_rfl) (fun _ _ _ h => h) (Or.inl ⟨by rfl, ?y2⟩) (by assumption) ?r2
  case y2 => (intro w hSw; go_simp; try with_reducible rfl)
  try simp only [Act.put, List.setIfInBounds_toArray, List.set_cons_zero, List.set_cons_succ]
  refine wpAnyH_take (i := 2) (oi := { dst := some 22, op := _, type := _, pos := _, after := _, guard := _ }) (v := ?v3) rfl (by kernel_rfl) (by kernel_rfl) (by kernel_rfl) (fun _ _ _ h => h) (Or.inl ⟨by rfl, ?y3⟩) (by assumption) ?r3
  case y3 => (intro w hSw; go_simp; try with_reducible rfl)
  try simp only [Act.put, List.setIfInBounds_toArray, List.set_cons_zero, List.set_cons_succ]
  refine wpAnyH_take (i := 3) (oi := { dst := some 23, op := _, type := _, pos := _, after := _, guard := _ }) (v := ?v4) rfl (by kernel_rfl) (by kernel_rfl) (by kernel_rfl) (fun _ _ _ h => h) (Or.inl ⟨by rfl, ?y4⟩) (by assumption) ?r4
  case y4 => (intro w hSw; go_simp; try with_reducible rfl)
  try simp only [Act.put, List.setIfInBounds_toArray, List.set_cons_zero, List.set_cons_succ]
  refine wpAnyH_take (i := 4) (oi := { dst := some 24, op := _, type := _, pos := _, after := _, guard := _ }) (v := ?v5) rfl (by kernel_rfl) (by kernel_rfl) (by kernel_rfl) (fun _ _ _ h => h) (Or.inl ⟨by rfl, ?y5⟩) (by assumption) ?r5
  case y5 => (intro w hSw; go_simp; try with_reducible rfl)
  try simp only [Act.put, List.setIfInBounds_toArray, List.set_cons_zero, List.set_cons_succ]
  refine wpAnyH_take (i := 5) (oi := { dst := some 25, op := _, type := _, pos := _, after := _, guard := _ }) (v := ?v6) rfl (by kernel_rfl) (by kernel_rfl) (by kernel_rfl) (fun _ _ _ h => h) (Or.inl ⟨by rfl, ?y6⟩) (by assumption) ?r6
  case y6 => (intro w hSw; go_simp; try with_reducible rfl)
  try simp only [Act.put, List.setIfInBounds_toArray, List.set_cons_zero, List.set_cons_succ]
  refine wpAnyH_take (i := 6) (oi := { dst := some 26, op := _, type := _, pos := _, after := _, guard := _ }) (v := ?v7) rfl (by kernel_rfl) (by kernel_rfl) (by kernel_rfl) (fun _ _ _ h => h) (Or.inl ⟨by rfl, ?y7⟩) (by assumption) ?r7
  case y7 => (intro w hSw; go_simp; try with_reducible rfl)
  try simp only [Act.put, List.setIfInBounds_toArray, List.set_cons_zero, List.set_cons_succ]
  refine wpAnyH_ready (rs := [7]) (by kernel_rfl) (by simp) (AllReadyH.cons (o := _) rfl (fun K hK => ?_) AllReadyH.nil)
  go_simp
  (go_at_call 32; (with_reducible refine (hN2.out _).mono ?_); rintro x w5 ⟨rfl, hw5⟩; subst hw5)
  try go_wp2_with fail
  refine hK.out _ _ (trivial) (fun hHeld => ?_)
  clear hK K
  try simp only [Act.put, List.setIfInBounds_toArray, List.set_cons_zero, List.set_cons_succ]
  refine wpAnyH_take (i := 8) (oi := { dst := some 28, op := _, type := _, pos := _, after := _, guard := _ }) (v := ?v8) rfl (by kernel_rfl) (by kernel_rfl) (by kernel_rfl) (fun _ _ _ h => h) (Or.inl ⟨by rfl, ?y8⟩) (by assumption) ?r8
  case y8 => (intro w hSw; go_simp; try with_reducible rfl)
  try simp only [Act.put, List.setIfInBounds_toArray, List.set_cons_zero, List.set_cons_succ]
  refine wpAnyH_take (i := 9) (oi := { dst := some 5, op := _, type := _, pos := _, after := _, guard := _ }) (v := ?v9) rfl (by kernel_rfl) (by kernel_rfl) (by kernel_rfl) (fun _ _ _ h => h) (Or.inl ⟨by rfl, ?y9⟩) (by assumption) ?r9
  case y9 => (intro w hSw; go_simp; try with_reducible rfl)
  try simp only [Act.put, List.setIfInBounds_toArray, List.set_cons_zero, List.set_cons_succ]
  refine wpAnyH_take (i := 10) (oi := { dst := some 6, op := _, type := _, pos := _, after := _, guard := _ }) (v := ?v10) rfl (by kernel_rfl) (by kernel_rfl) (by kernel_rfl) (fun _ _ _ h => h) (Or.inl ⟨by rfl, ?y10⟩) (by assumption) ?r10
  case y10 => (intro w hSw; go_simp; try with_reducible rfl)
  try simp only [Act.put, List.setIfInBounds_toArray, List.set_cons_zero, List.set_cons_succ]
  refine wpAnyH_done (by kernel_rfl) ?_ _
  have H1 := Lib.hid (show RR w W.drew from H0.out.drewN 1)
  generalize W.drew = W1 at H1 ⊢
  clear hr hf hHeld H0
  go_upto_region 24 with (first
    | (go_at_call 31; (with_reducible refine (HSUM.out _).mono ?_); rintro x w5 ⟨rfl, hw5⟩; subst hw5)
    | (go_at_call 32; (with_reducible refine (hN6.out _).mono ?_); rintro x w5 ⟨rfl, hw5⟩; subst hw5)
    | (go_at_call 33; (with_reducible refine (HAL.out _).mono ?_); rintro x w5 ⟨rfl, hw5⟩; subst hw5))
  clear hq3 hq4 hq5 hq6 hq7 hq8 hq10 hwm hfm
  go_cut [9] from 10 (fun q wr => ∃ m : Nat, q = .pointer (some ⟨m, 0, none⟩) ∧ RG w wr m E0)
  case first =>
    refine wp_region_held_drew (S := fun _ => True) (by kernel_rfl) (trivial) (fun hHeld => ?_)
    refine wpAnyH_take (i := 0) (oi := { dst := some 73, op := _, type := _, pos := _, after := _, guard := _ }) (v := ?v51) rfl (by kernel_rfl) (by kernel_rfl) (by kernel_rfl) (fun _ _ _ h => h) (Or.inl ⟨by rfl, ?y51⟩) (by assumption) ?r51
    case y51 => (intro w hSw; go_simp; try with_reducible rfl)
    try simp only [Act.put, List.setIfInBounds_toArray, List.set_cons_zero, List.set_cons_succ]
    refine wpAnyH_take (i := 1) (oi := { dst := some 74, op := _, type := _, pos := _, after := _, guard := _ }) (v := ?v52) rfl (by kernel_rfl) (by kernel_rfl) (by kernel_rfl) (fun _ _ _ h => h) (Or.inl ⟨by rfl, ?y52⟩) (by assumption) ?r52
    case y52 => (intro w hSw; go_simp; try with_reducible rfl)
    try simp only [Act.put, List.setIfInBounds_toArray, List.set_cons_zero, List.set_cons_succ]
    refine wpAnyH_take (i := 2) (oi := { dst := some 75, op := _, type := _, pos := _, after := _, guard := _ }) (v := ?v53) rfl (by kernel_rfl) (by kernel_rfl) (by kernel_rfl) (fun _ _ _ h => h) (Or.inl ⟨by rfl, ?y53⟩) (by assumption) ?r53
    case y53 => (intro w hSw; go_simp; try with_reducible rfl)
    try simp only [Act.put, List.setIfInBounds_toArray, List.set_cons_zero, List.set_cons_succ]
    refine wpAnyH_take (i := 3) (oi := { dst := some 76, op := _, type := _, pos := _, after := _, guard := _ }) (v := ?v54) rfl (by kernel_rfl) (by kernel_rfl) (by kernel_rfl) (fun _ _ _ h => h) (Or.inl ⟨by rfl, ?y54⟩) (by assumption) ?r54
    case y54 => (intro w hSw; go_simp; try with_reducible rfl)
    try simp only [Act.put, List.setIfInBounds_toArray, List.set_cons_zero, List.set_cons_succ]
    refine wpAnyH_take (i := 4) (oi := { dst := some 77, op := _, type := _, pos := _, after := _, guard := _ }) (v := ?v55) rfl (by kernel_rfl) (by kernel_rfl) (by kernel_rfl) (fun _ _ _ h => h) (Or.inl ⟨by rfl, ?y55⟩) (by assumption) ?r55
    case y55 => (intro w hSw; go_simp; try with_reducible rfl)
    try simp only [Act.put, List.setIfInBounds_toArray, List.set_cons_zero, List.set_cons_succ]
    refine wpAnyH_take (i := 7) (oi := { dst := some 80, op := _, type := _, pos := _, after := _, guard := _ }) (v := ?v56) rfl (by kernel_rfl) (by kernel_rfl) (by kernel_rfl) (fun _ _ _ h => h) (Or.inl ⟨by rfl, ?y56⟩) (by assumption) ?r56
    case y56 => (intro w hSw; go_simp; try with_reducible rfl)
    try simp only [Act.put, List.setIfInBounds_toArray, List.set_cons_zero, List.set_cons_succ]
    refine wpAnyH_take (i := 8) (oi := { dst := some 81, op := _, type := _, pos := _, after := _, guard := _ }) (v := ?v57) rfl (by kernel_rfl) (by kernel_rfl) (by kernel_rfl) (fun _ _ _ h => h) (Or.inl ⟨by rfl, ?y57⟩) (by assumption) ?r57
    case y57 => (intro w hSw; go_simp; try with_reducible rfl)
    try simp only [Act.put, List.setIfInBounds_toArray, List.set_cons_zero, List.set_cons_succ]
    refine wpAnyH_take (i := 9) (oi := { dst := some 82, op := _, type := _, pos := _, after := _, guard := _ }) (v := ?v58) rfl (by kernel_rfl) (by kernel_rfl) (by kernel_rfl) (fun _ _ _ h => h) (Or.inl ⟨by rfl, ?y58⟩) (by assumption) ?r58
    case y58 => (intro w hSw; go_simp; try with_reducible rfl)
    try simp only [Act.put, List.setIfInBounds_toArray, List.set_cons_zero, List.set_cons_succ]
    refine wpAnyH_take (i := 10) (oi := { dst := some 83, op := _, type := _, pos := _, after := _, guard := _ }) (v := ?v59) rfl (by kernel_rfl) (by kernel_rfl) (by kernel_rfl) (fun _ _ _ h => h) (Or.inl ⟨by rfl, ?y59⟩) (by assumption) ?r59
    case y59 => (intro w hSw; go_simp; try with_reducible rfl)
    try simp only [Act.put, List.setIfInBounds_toArray, List.set_cons_zero, List.set_cons_succ]
    refine wpAnyH_take (i := 11) (oi := { dst := some 84, op := _, type := _, pos := _, after := _, guard := _ }) (v := ?v60) rfl (by kernel_rfl) (by kernel_rfl) (by kernel_rfl) (fun _ _ _ h => h) (Or.inl ⟨by rfl, ?y60⟩) (by assumption) ?r60
    case y60 => (intro w hSw; go_simp; try with_reducible rfl)
    try simp only [Act.put, List.setIfInBounds_toArray, List.set_cons_zero, List.set_cons_succ]
    refine wpAnyH_take (i := 12) (oi := { dst := some 85, op := _, type := _, pos := _, after := _, guard := _ }) (v := ?v61) rfl (by kernel_rfl) (by kernel_rfl) (by kernel_rfl) (fun _ _ _ h => h) (Or.inl ⟨by rfl, ?y61⟩) (by assumption) ?r61
    case y61 => (intro w hSw; go_simp; try with_reducible rfl)
    try simp only [Act.put, List.setIfInBounds_toArray, List.set_cons_zero, List.set_cons_succ]
    refine wpAnyH_take (i := 13) (oi := { dst := some 86, op := _, type := _, pos := _, after := _, guard := _ }) (v := ?v62) rfl (by kernel_rfl) (by kernel_rfl) (by kernel_rfl) (fun _ _ _ h => h) (Or.inl ⟨by rfl, ?y62⟩) (by assumption) ?r62
    case y62 => (intro w hSw; go_simp; try with_reducible rfl)
    try simp only [Act.put, List.setIfInBounds_toArray, List.set_cons_zero, List.set_cons_succ]
    refine wpAnyH_take (i := 14) (oi := { dst := some 87, op := _, type := _, pos := _, after := _, guard := _ }) (v := ?v63) rfl (by kernel_rfl) (by kernel_rfl) (by kernel_rfl) (fun _ _ _ h => h) (Or.inl ⟨by rfl, ?y63⟩) (by assumption) ?r63
    case y63 => (intro w hSw; go_simp; try with_reducible rfl)
    try simp only [Act.put, List.setIfInBounds_toArray, List.set_cons_zero, List.set_cons_succ]
    refine wpAnyH_take (i := 15) (oi := { dst := some 88, op := _, type := _, pos := _, after := _, guard := _ }) (v := ?v64) rfl (by kernel_rfl) (by kernel_rfl) (by kernel_rfl) (fun _ _ _ h => h) (Or.inl ⟨by rfl, ?y64⟩) (by assumption) ?r64
    case y64 => (intro w hSw; go_simp; try with_reducible rfl)
    try simp only [Act.put, List.setIfInBounds_toArray, List.set_cons_zero, List.set_cons_succ]
    refine wpAnyH_take (i := 16) (oi := { dst := some 89, op := _, type := _, pos := _, after := _, guard := _ }) (v := ?v65) rfl (by kernel_rfl) (by kernel_rfl) (by kernel_rfl) (fun _ _ _ h => h) (Or.inl ⟨by rfl, ?y65⟩) (by assumption) ?r65
    case y65 => (intro w hSw; go_simp; try with_reducible rfl)
    try simp only [Act.put, List.setIfInBounds_toArray, List.set_cons_zero, List.set_cons_succ]
    refine wpAnyH_take (i := 17) (oi := { dst := some 90, op := _, type := _, pos := _, after := _, guard := _ }) (v := ?v66) rfl (by kernel_rfl) (by kernel_rfl) (by kernel_rfl) (fun _ _ _ h => h) (Or.inl ⟨by rfl, ?y66⟩) (by assumption) ?r66
    case y66 => (intro w hSw; go_simp; try with_reducible rfl)
    try simp only [Act.put, List.setIfInBounds_toArray, List.set_cons_zero, List.set_cons_succ]
    refine wpAnyH_ready (rs := [5, 19]) (by kernel_rfl) (by simp) (AllReadyH.cons (o := _) rfl (fun K hK => ?_) (AllReadyH.cons (o := _) rfl (fun K hK => ?_) AllReadyH.nil))
    · go_simp
      (go_at_call 32; (with_reducible refine (hN4.out _).mono ?_); rintro x w5 ⟨rfl, hw5⟩; subst hw5)
      try go_wp2_with fail
      refine hK.out _ _ (trivial) (fun hHeld => ?_)
      clear hK K
      try simp only [Act.put, List.setIfInBounds_toArray, List.set_cons_zero, List.set_cons_succ]
      refine wpAnyH_take (i := 6) (oi := { dst := some 79, op := _, type := _, pos := _, after := _, guard := _ }) (v := ?v67) rfl (by kernel_rfl) (by kernel_rfl) (by kernel_rfl) (fun _ _ _ h => h) (Or.inl ⟨by rfl, ?y67⟩) (by assumption) ?r67
      case y67 => (intro w hSw; go_simp; try with_reducible rfl)
      try simp only [Act.put, List.setIfInBounds_toArray, List.set_cons_zero, List.set_cons_succ]
      refine wpAnyH_take (i := 18) (oi := { dst := some 91, op := _, type := _, pos := _, after := _, guard := _ }) (v := ?v68) rfl (by kernel_rfl) (by kernel_rfl) (by kernel_rfl) (fun _ _ _ h => h) (Or.inl ⟨by rfl, ?y68⟩) (by assumption) ?r68
      case y68 => (intro w hSw; go_simp; try with_reducible rfl)
      try simp only [Act.put, List.setIfInBounds_toArray, List.set_cons_zero, List.set_cons_succ]
      refine wpAnyH_ready (rs := [19]) (by kernel_rfl) (by simp) (AllReadyH.cons (o := _) rfl (fun K hK => ?_) AllReadyH.nil)
      go_simp
      refine hK.out _ _ (trivial) (fun hHeld => ?_)
      clear hK K
      try simp only [Act.put, List.setIfInBounds_toArray, List.set_cons_zero, List.set_cons_succ]
      refine wpAnyH_ready (rs := [20]) (by kernel_rfl) (by simp) (AllReadyH.cons (o := _) rfl (fun K hK => ?_) AllReadyH.nil)
      go_simp
      refine hK.out _ _ (trivial) (fun hHeld => ?_)
      clear hK K
      try simp only [Act.put, List.setIfInBounds_toArray, List.set_cons_zero, List.set_cons_succ]
      refine wpAnyH_done (by kernel_rfl) ?_ _
      go_wp2
      go_meet
      case rel => exact ⟨_, rfl, by first | exact RG.made H1.out E0 HO0.out | exact RG.made (H1.out.drewN 1) E0 HO0.out | exact RG.made (H1.out.drewN 2) E0 HO0.out⟩
    · go_simp
      refine hK.out _ _ (trivial) (fun hHeld => ?_)
      clear hK K
      try simp only [Act.put, List.setIfInBounds_toArray, List.set_cons_zero, List.set_cons_succ]
      refine wpAnyH_ready (rs := [5]) (by kernel_rfl) (by simp) (AllReadyH.cons (o := _) rfl (fun K hK => ?_) AllReadyH.nil)
      go_simp
      (go_at_call 32; (with_reducible refine (hN4.out _).mono ?_); rintro x w5 ⟨rfl, hw5⟩; subst hw5)
      try go_wp2_with fail
      refine hK.out _ _ (trivial) (fun hHeld => ?_)
      clear hK K
      try simp only [Act.put, List.setIfInBounds_toArray, List.set_cons_zero, List.set_cons_succ]
      refine wpAnyH_take (i := 6) (oi := { dst := some 79, op := _, type := _, pos := _, after := _, guard := _ }) (v := ?v69) rfl (by kernel_rfl) (by kernel_rfl) (by kernel_rfl) (fun _ _ _ h => h) (Or.inl ⟨by rfl, ?y69⟩) (by assumption) ?r69
      case y69 => (intro w hSw; go_simp; try with_reducible rfl)
      try simp only [Act.put, List.setIfInBounds_toArray, List.set_cons_zero, List.set_cons_succ]
      refine wpAnyH_take (i := 18) (oi := { dst := some 91, op := _, type := _, pos := _, after := _, guard := _ }) (v := ?v70) rfl (by kernel_rfl) (by kernel_rfl) (by kernel_rfl) (fun _ _ _ h => h) (Or.inl ⟨by rfl, ?y70⟩) (by assumption) ?r70
      case y70 => (intro w hSw; go_simp; try with_reducible rfl)
      try simp only [Act.put, List.setIfInBounds_toArray, List.set_cons_zero, List.set_cons_succ]
      refine wpAnyH_ready (rs := [20]) (by kernel_rfl) (by simp) (AllReadyH.cons (o := _) rfl (fun K hK => ?_) AllReadyH.nil)
      go_simp
      refine hK.out _ _ (trivial) (fun hHeld => ?_)
      clear hK K
      try simp only [Act.put, List.setIfInBounds_toArray, List.set_cons_zero, List.set_cons_succ]
      refine wpAnyH_done (by kernel_rfl) ?_ _
      go_wp2
      go_meet
      case rel => exact ⟨_, rfl, by first | exact RG.made H1.out E0 HO0.out | exact RG.made (H1.out.drewN 1) E0 HO0.out | exact RG.made (H1.out.drewN 2) E0 HO0.out⟩
  case rest =>
    obtain ⟨m, rfl, hg⟩ := hcut
    have H4 := Lib.hid hg
    clear hg
    go_wp2_with (first
      | (go_at_call 34; (with_reducible refine (hA1.out _).mono ?_); rintro x w6 ⟨rfl, hb6⟩; have H5 := Lib.hid (H4.out.below hb6); have f4 := H5.out.free4; clear hb6)
      | (go_at_call 34; (with_reducible refine (hA2.out _).mono ?_); rintro x w7 ⟨rfl, hb7⟩; have H6 := Lib.hid ((H5.out.fr A1 HL12.out).below hb7); have f21 := H6.out.free21; have h7 := H6.out.to A2 HL16.out; simp only at h7; rw [HEE.out] at h7; have hr := h7.2.1.row HO2.out; have hf := h7.1.free; have H7 := Lib.hid h7; clear hb7 h7))
    obtain ⟨q1, q2⟩ := H7.out.1.done E2 HO2.out
    exact bodyPost_ret (results_cell2 Try.results15 rfl (ld_some q1 (ldr_ip _ _ _))) rfl ⟨by rw [HR.out]; rfl, q2⟩

theorem rread5_any (s : List UInt8) (hs : s.length ≤ 100000) (w : World) :
    Calls Try.prog 15 #[.string (Str s)] w fun x w' => x = .returned (.tuple #[.agg (ipC (readV5 s).1).toArray, .int .i64 (readV5 s).2]) ∧ Below w.heap.size w w' := by
  by_cases h1 : s.length < 20
  · exact rread5_short s hs h1 w
  by_cases h2 : by8 s 0 / 16 ≠ 4
  · exact rread5_kind s hs h1 h2 w
  by_cases h3 : hdN s < 20
  · exact rread5_small s hs h1 h2 h3 w
  by_cases h4 : s.length < hdN s
  · exact rread5_part s hs h1 h2 h3 h4 w
  by_cases h5 : foldN (wsum (s.take (hdN s))) = 65535
  · by_cases h6 : allN s < hdN s
    · exact rread5_tot s hs h1 h2 h3 h4 h5 h6 w
    by_cases h7 : s.length < allN s
    · exact rread5_end s hs h1 h2 h3 h4 h5 h6 h7 w
    by_cases h8 : wd s 6 % 16384 ≠ 0
    · exact rread5_frag s hs h1 h2 h3 h4 h5 h6 h7 h8 w
    by_cases h9 : (optS s).2 = false
    · exact rread5_opt s hs h1 h2 h3 h4 h5 h6 h7 h8 h9 w
    by_cases h10 : 1400 < allN s - hdN s
    · exact rread5_long s hs h1 h2 h3 h4 h5 h6 h7 h8 h9 h10 w
    · exact rread5_good s hs h1 h2 h3 h4 h5 h6 h7 h8 (by simpa using h9) h10 w
  · exact rread5_sum s hs h1 h2 h3 h4 h5 w
end Go.Proofs.Ytbmacnbegbcgpaa
