/-
  The walk of the law Ip6Writes.
-/
import Derived.Test.YtkmnnkklbgnfpaaIqL
namespace Go.Proofs.Ytkmnnkklbgnfpaa
open Go.RowKit
set_option linter.unusedVariables false
attribute [local go_sem ↓] bld_iq ld_iq st_iq ld_addr st_addr
attribute [local go_sem] ldr_iq str_iq ldr_addr str_addr

def Ip.cut6 (p : Ip) (n : Nat) : Ip := { p with bd := p.bd.take n }
theorem QB.setBd {w W : World} {p : Ip} (h : QB w W p) (ho : p.ok) (b : List UInt8) : QB w (W.setCell ⟨w.heap.size, 39, none⟩ (.string (Str b))) { p with bd := b } := by
  refine ⟨?_, h.2.setCell (p := ⟨w.heap.size, 39, none⟩) (Nat.le_refl _) _⟩
  have := ObjAt.set h.1 39 (.string (Str b))
  have e : (ipC p).toArray.setIfInBounds 39 (.string (Str b)) = (ipC { p with bd := b }).toArray := by
    have e1 : ∀ q : Ip, ipC q = ([Value.int .i64 q.tos, .int .i64 q.id, .int .i64 q.ttl, .int .i64 q.pro] ++ (addrC q.f6 q.fr ++ addrC q.t6 q.to)) ++ [.bool q.al, .string (Str q.bd)] := fun q => by unfold ipC; simp
    have l1 : ([Value.int .i64 p.tos, .int .i64 p.id, .int .i64 p.ttl, .int .i64 p.pro] ++ (addrC p.f6 p.fr ++ addrC p.t6 p.to)).length = 38 := by simp [addrC_length, ho.1, ho.2]
    apply Array.ext'
    rw [Array.toList_setIfInBounds]
    show (ipC p).set 39 _ = ipC { p with bd := b }
    rw [e1 p, e1 { p with bd := b }, List.set_append_right _ _ (by rw [l1]; omega), l1]
    rfl
  rw [e] at this
  exact this
theorem boolself6 (b : Bool) : (b != b) = false := by cases b <;> rfl
/-- The packet boxed first, and another one made later. -/
def KJ (w W : World) (n : Nat) (e f : Ip) : Prop := QB w W e ∧ IqAt W n f ∧ w.heap.size < n
theorem KJ.below {w W W' : World} {n : Nat} {e f : Ip} (h : KJ w W n e f) (hb : Below W.heap.size W W') : KJ w W' n e f := ⟨h.1.keep hb, h.2.1.below hb, h.2.2⟩
theorem KJ.made {w W : World} {e : Ip} (h : QB w W e) (f : Ip) (hf : f.ok) : KJ w (aggW (W.alloc (.cells (ipC zeroI).toArray 26)) W.heap.size (ipC f)) W.heap.size e f := by
  have hl := h.lt
  exact ⟨⟨aggW_other (ObjAt.alloc h.1 _) _ (by omega), aggW_below (h.2.alloc (by omega) _) (by omega) _⟩, aggW_obj (ObjAt.made W (ipC zeroI).toArray 26) (by rw [ipC_length hf, ipC_length zeroI_ok]) (ipC_one f), hl⟩

set_option maxRecDepth 100000 in
set_option maxHeartbeats 2000000 in
theorem qwrites (e0 : Ip) (ho0 : e0.ok) (hl0 : e0.bd.length ≤ maxLen) (a1 : ByteArray) (w1 : a1.size ≤ maxLen) (w : World) : Calls Try.prog 3 #[.agg (ipC e0).toArray, .string a1] w fun x w' => x = .returned (.bool true) ∧ Below w.heap.size w w' := by
  have HB0 := Lib.hid (QB.made w e0)
  obtain ⟨z, hzE⟩ : ∃ l : List UInt8, Str l = cutB a1 10 := ⟨(cutB a1 10).data.toList, Str_of _⟩
  have hzl : z.length ≤ 10 := by have := cutB_size a1 10; rw [← hzE, Str_size] at this; exact this
  have HC2 : Hid (∀ W, Calls Try.prog 7 #[.string a1, .int .i64 10] W fun x w' => x = .returned (.string (Str z)) ∧ W = w') := Lib.hid fun W => by
    rw [hzE]; exact cut_any a1 w1 10 (by omega) W
  obtain ⟨e, he⟩ : ∃ e, e = e0.cut6 60 := ⟨_, rfl⟩
  have ho : e.ok := by rw [he]; exact ho0
  have hl : e.bd.length ≤ 60 := by rw [he]; simp [Ip.cut6]; omega
  have HC : Hid (∀ W, Calls Try.prog 7 #[.string (Str e0.bd), .int .i64 60] W fun x w' => x = .returned (.string (Str e.bd)) ∧ W = w') := Lib.hid fun W => by
    have := cut_any (Str e0.bd) (by rw [Str_size]; exact hl0) 60 (by omega) W
    rw [cutB_str] at this
    rw [he]; exact this
  have HS : Hid (∀ W, QB w W e0 → QB w (W.setCell ⟨w.heap.size, 39, none⟩ (.string (Str e.bd))) e) := Lib.hid fun W h => by
    have := h.setBd ho0 e.bd
    rw [show ({ e0 with bd := e.bd } : Ip) = e by rw [he]; rfl] at this
    exact this
  have HO0 := Lib.hid ho0
  have HO := Lib.hid ho
  have hst : ∀ t : List UInt8, (t == t) = true := fun t => by simp
  have hsi : ∀ t : Int, (t == t) = true := fun t => by simp
  have hbs := boolself6
  have heq := eq_iq e ho
  have HK : Hid (∀ W, QB w W e → row? W w.heap.size 0 40 = some (ipC e) ∧ QB w W e) := Lib.hid fun W h => ⟨h.1.row ho, h⟩
  have hbl : (⟨#[]⟩ : ByteArray) = Str [] := rfl
  have HG1 := Lib.hid (fun W => good6_any e ho (by omega) W)
  have HG2 := Lib.hid (fun W => rgood6_any e ho (by omega) W)
  have HWB := Lib.hid (fun hg W => write6_bad e ho (by omega) hg W)
  clear ho0 hl0 he w1 hzE
  cases hg : e.good6 with
  | false =>
    have HW := Lib.hid (HWB.out hg)
    rw [hg] at HG1 HG2
    clear hg HWB ho hl hzl
    generalize Str z = Z at HC2
    go_enter Try.func3, Try.ntmps3
    go_upto_region 1 with (fail)
    generalize w.alloc (.cells (ipC e0).toArray 26) = W at HB0 ⊢
    have c5 := HB0.out.1.bd HO0.out
    have f5 := IqAt.frz HB0.out.1 39
    have HB := Lib.hid (HS.out _ HB0.out)
    go_upto_region 2 with (first
      | (go_at_call 7; (with_reducible refine (HC.out _).mono ?_); rintro x w1 ⟨rfl, rfl⟩)
      | (go_at_call 7; (with_reducible refine (HC2.out _).mono ?_); rintro x w1 ⟨rfl, rfl⟩))
    generalize World.setCell _ _ _ = W1 at HB ⊢
    have hr := HB.out.1.row HO.out
    clear c5 f5
    go_upto_region 3 with (go_at_call 8; (with_reducible refine (HW.out _).mono ?_); rintro x w2 ⟨rfl, hb2⟩; have HB2 := Lib.hid (HB.out.keep hb2); clear hb2 hr)
    go_region_held3 (fun W => row? W w.heap.size 0 40 = some (ipC e) ∧ QB w W e) (first | assumption | exact HK.out _ HB2.out | exact HK.out _ (HB2.out.drewN 1)) (first
      | (go_at_call 9; (with_reducible refine (HG1.out _).mono ?_); rintro x w3 ⟨rfl, hb3⟩; have hk := HK.out _ (QB.keep (And.right (by assumption)) hb3); clear hb3)
      | (go_at_call 10; (with_reducible refine (HG2.out _).mono ?_); rintro x w3 ⟨rfl, hb3⟩; have hk := HK.out _ (QB.keep (And.right (by assumption)) hb3); clear hb3))
    have HB3 := Lib.hid hk.2
    clear hk
    have hr := HB3.out.1.row HO.out
    go_wp2_with (first
      | (go_at_call 10; (with_reducible refine (HG2.out _).mono ?_); rintro x w4 ⟨rfl, hb4⟩; have HB4 := Lib.hid (HB3.out.keep hb4); clear hb4 hr)
      | (go_at_call 11; (with_reducible refine (lives6_any _).mono ?_); rintro x w5 ⟨rfl, hb5⟩; have HB5 := Lib.hid (HB4.out.keep hb5); clear hb5))
    go_ret
    exact ⟨rfl, HB5.out.2⟩
  | true =>
    obtain ⟨g1, g2, g3, g6⟩ := Ip.good6_parts hg
    have hrd := read_wrt6 e ho g1 g2 g3 (by omega) z
    rw [if_pos g6] at hrd
    have hwl := Ip.wrt6_length e ho
    have hszb : e.sz6 ≤ 120 := by unfold Ip.sz6; split <;> omega
    have hnum := g1
    unfold Ip.nums6 at hnum
    rw [decide_eq_true_eq] at hnum
    obtain ⟨nx, hnx⟩ := Int.eq_ofNat_of_zero_le (show 0 ≤ e.ttl by omega)
    have HR := Lib.hid (fun W => read6_any (e.wrt6 ++ z) (by simp; omega) W)
    rw [hrd] at HR
    have HRW := Lib.hid (fun W => rwrite6_any e ho g1 g2 g3 (by omega) W)
    have HW := Lib.hid (fun W => write6_good e ho hg W)
    have HSZ := Lib.hid (fun W => size6_any e ho nx hnx (by omega) (by omega) W)
    clear hnum hnx
    rw [hg] at HG1 HG2
    have hfok := fok_ip ho
    have hcat := run_cat (P := Try.prog) e.wrt6 z (by omega)
    have hsz := Str_size e.wrt6
    rw [hwl] at hsz
    generalize e.sz6 = sz at *
    generalize Str (e.wrt6 ++ z) = SZ at *
    generalize Str e.wrt6 = S at *
    generalize Str z = Z at *
    have hss2 : (S.toList == S.toList) = true := hst _
    clear hg HWB ho hl hzl g1 g2 g3 g6 hrd hwl hbl
    go_enter Try.func3, Try.ntmps3
    go_upto_region 1 with (fail)
    generalize w.alloc (.cells (ipC e0).toArray 26) = W at HB0 ⊢
    have c5 := HB0.out.1.bd HO0.out
    have f5 := IqAt.frz HB0.out.1 39
    have HB := Lib.hid (HS.out _ HB0.out)
    go_upto_region 2 with (first
      | (go_at_call 7; (with_reducible refine (HC.out _).mono ?_); rintro x w1 ⟨rfl, rfl⟩)
      | (go_at_call 7; (with_reducible refine (HC2.out _).mono ?_); rintro x w1 ⟨rfl, rfl⟩))
    generalize World.setCell _ _ _ = W1 at HB ⊢
    have hr := HB.out.1.row HO.out
    clear c5 f5
    go_upto_region 3 with (go_at_call 8; (with_reducible refine (HW.out _).mono ?_); rintro x w2 ⟨rfl, hb2⟩; have HB2 := Lib.hid (HB.out.keep hb2); clear hb2 hr)
    go_region_held3 (fun W => row? W w.heap.size 0 40 = some (ipC e) ∧ QB w W e) (first | assumption | exact HK.out _ HB2.out | exact HK.out _ (HB2.out.drewN 1)) (first
      | (go_at_call 9; (with_reducible refine (HG1.out _).mono ?_); rintro x w3 ⟨rfl, hb3⟩; have hk := HK.out _ (QB.keep (And.right (by assumption)) hb3); clear hb3)
      | (go_at_call 10; (with_reducible refine (HG2.out _).mono ?_); rintro x w3 ⟨rfl, hb3⟩; have hk := HK.out _ (QB.keep (And.right (by assumption)) hb3); clear hb3))
    have HB3 := Lib.hid hk.2
    clear hk
    have hr := HB3.out.1.row HO.out
    go_upto_region 7 with (go_at_call 10; (with_reducible refine (HG2.out _).mono ?_); rintro x w4 ⟨rfl, hb4⟩; have HB4 := Lib.hid (HB3.out.keep hb4); clear hb4 hr)
    have hr := HB4.out.1.row HO.out
    go_upto_region 8 with (first
      | (go_at_call 13; (with_reducible refine (HRW.out _).mono ?_); rintro x w5 ⟨rfl, hb5⟩; have HB5 := Lib.hid (HB4.out.keep hb5); clear hb5 hr)
      | (go_at_call 12; (with_reducible refine (HR.out _).mono ?_); rintro x w6 ⟨rfl, hb6⟩; have hfw6 := free_made w6 #[.int .i64 0, .int .i64 0, .int .i64 0, .int .i64 0, .bool false, .int .u8 0, .int .u8 0, .int .u8 0, .int .u8 0, .int .u8 0, .int .u8 0, .int .u8 0, .int .u8 0, .int .u8 0, .int .u8 0, .int .u8 0, .int .u8 0, .int .u8 0, .int .u8 0, .int .u8 0, .int .u8 0, .bool false, .int .u8 0, .int .u8 0, .int .u8 0, .int .u8 0, .int .u8 0, .int .u8 0, .int .u8 0, .int .u8 0, .int .u8 0, .int .u8 0, .int .u8 0, .int .u8 0, .int .u8 0, .int .u8 0, .int .u8 0, .int .u8 0, .bool false, .string ⟨#[]⟩] 26 40 (by simp); have hw6 := KJ.made (HB5.out.keep hb6) e HO.out; rw [zeroI_cells] at hw6; have H6 := Lib.hid hw6; clear hw6; clear hb6))
    generalize aggW (w6.alloc (.cells #[.int .i64 0, .int .i64 0, .int .i64 0, .int .i64 0, .bool false, .int .u8 0, .int .u8 0, .int .u8 0, .int .u8 0, .int .u8 0, .int .u8 0, .int .u8 0, .int .u8 0, .int .u8 0, .int .u8 0, .int .u8 0, .int .u8 0, .int .u8 0, .int .u8 0, .int .u8 0, .int .u8 0, .bool false, .int .u8 0, .int .u8 0, .int .u8 0, .int .u8 0, .int .u8 0, .int .u8 0, .int .u8 0, .int .u8 0, .int .u8 0, .int .u8 0, .int .u8 0, .int .u8 0, .int .u8 0, .int .u8 0, .int .u8 0, .int .u8 0, .bool false, .string ⟨#[]⟩] 26)) w6.heap.size _ = W7 at H6 ⊢
    clear hfw6
    generalize w6.heap.size = m at H6 ⊢
    have hr := H6.out.1.1.row HO.out
    go_wp2_with (first
      | (go_at_call 13; (with_reducible refine (HRW.out _).mono ?_); rintro x w8 ⟨rfl, hb8⟩; have H7 := Lib.hid (H6.out.below hb8); clear hb8 hr; have hr := H7.out.1.1.row HO.out)
      | (go_at_call 14; (with_reducible refine (HSZ.out _).mono ?_); rintro x w9 ⟨rfl, hb9⟩; have H8 := Lib.hid (H7.out.below hb9); clear hb9 hr; have hr := H8.out.1.1.row HO.out; have hr2 := H8.out.2.1.row HO.out)
      | (go_at_call 11; (with_reducible refine (lives6_any _).mono ?_); rintro x w10 ⟨rfl, hb10⟩; have H9 := Lib.hid (H8.out.below hb10); clear hb10))
    go_ret
    exact ⟨rfl, H9.out.1.2⟩
end Go.Proofs.Ytkmnnkklbgnfpaa
