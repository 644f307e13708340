/-
  The small living call of the laws on packets; the shape of a packet that came in; two packets made later.
-/
import Derived.Test.YtbmacnbegbcgpaaIpT
import Derived.Test.YtbmacnbegbcgpaaIpV
import Derived.Test.YtbmacnbegbcgpaaIpF
namespace Go.Proofs.Ytbmacnbegbcgpaa
open Go.RowKit
set_option linter.unusedVariables false
attribute [local go_sem ↓] bld_ip ld_ip st_ip ld_addr st_addr
attribute [local go_sem] ldr_ip str_ip ldr_addr str_addr

def liveL : List UInt8 := [70, 0, 0, 25, 0, 0, 0, 0, 1, 2, 58, 221, 10, 0, 0, 1, 224, 0, 0, 1, 148, 4, 0, 0, 120, 121]
def liveI : Ip := ⟨0, 0, 1, 2, false, [10, 0, 0, 1, 0, 0, 0, 0, 0, 0, 0, 0, 0, 0, 0, 0], false, [224, 0, 0, 1, 0, 0, 0, 0, 0, 0, 0, 0, 0, 0, 0, 0], true, [120]⟩
theorem live_why : why5 liveL = 0 := by decide +kernel
theorem live_is : ipOf liveL = liveI := by
  have h1 : by8 liveL 1 = 0 := by decide +kernel
  have h2 : wd liveL 4 = 0 := by decide +kernel
  have h3 : by8 liveL 8 = 1 := by decide +kernel
  have h4 : by8 liveL 9 = 2 := by decide +kernel
  have h5 : readV ((liveL.drop 12).take 4) = [10, 0, 0, 1, 0, 0, 0, 0, 0, 0, 0, 0, 0, 0, 0, 0] := by decide +kernel
  have h6 : readV ((liveL.drop 16).take 4) = [224, 0, 0, 1, 0, 0, 0, 0, 0, 0, 0, 0, 0, 0, 0, 0] := by decide +kernel
  have h7 : (optS liveL).1 = true := by decide +kernel
  have h8 : (liveL.drop (hdN liveL)).take (allN liveL - hdN liveL) = [120] := by decide +kernel
  unfold ipOf liveI
  rw [h1, h2, h3, h4, h5, h6, h7, h8]
  rfl
theorem live_read (w : World) : Calls Try.prog 12 #[.string ⟨#[70, 0, 0, 25, 0, 0, 0, 0, 1, 2, 58, 221, 10, 0, 0, 1, 224, 0, 0, 1, 148, 4, 0, 0, 120, 121]⟩] w fun x w' => x = .returned (.tuple #[.agg (ipC liveI).toArray, .int .i64 0]) ∧ Below w.heap.size w w' := by
  have h := read5_any liveL (by decide) w
  rw [show readV5 liveL = (liveI, 0) by unfold readV5; rw [if_pos live_why, live_is]] at h
  exact h
theorem liveI_ok : liveI.ok := ⟨rfl, rfl⟩
set_option maxRecDepth 100000 in
set_option maxHeartbeats 1000000 in
theorem lives5_any (w : World) : Calls Try.prog 11 #[] w fun x w' => x = .returned (.bool true) ∧ Below w.heap.size w w' := by
  have hfok := fok_ip liveI_ok
  have HC : Hid (∀ (W : World) (m : Nat), I1 w W m liveI → W.cell? ⟨m, 38, none⟩ = some (.bool true) ∧ W.cell? ⟨m, 39, none⟩ = some (.string ⟨#[120]⟩) ∧ W.cell? ⟨m, 22, none⟩ = some (.int .u8 224) ∧ W.cell? ⟨m, 3, none⟩ = some (.int .i64 2)) := Lib.hid fun W m h => by
    refine ⟨h.1.al liveI_ok, h.1.bd liveI_ok, ?_, h.1.pro⟩
    rw [ObjAt.cell h.1]; rfl
  go_enter Try.func11, Try.ntmps11
  go_upto_region 2 with (go_at_call 12; (with_reducible refine (live_read _).mono ?_); rintro x w1 ⟨rfl, hb1⟩; have hf1 := free_made w1 #[.int .i64 0, .int .i64 0, .int .i64 0, .int .i64 0, .bool false, .int .u8 0, .int .u8 0, .int .u8 0, .int .u8 0, .int .u8 0, .int .u8 0, .int .u8 0, .int .u8 0, .int .u8 0, .int .u8 0, .int .u8 0, .int .u8 0, .int .u8 0, .int .u8 0, .int .u8 0, .int .u8 0, .bool false, .int .u8 0, .int .u8 0, .int .u8 0, .int .u8 0, .int .u8 0, .int .u8 0, .int .u8 0, .int .u8 0, .int .u8 0, .int .u8 0, .int .u8 0, .int .u8 0, .int .u8 0, .int .u8 0, .int .u8 0, .int .u8 0, .bool false, .string ⟨#[]⟩] 26 40 (by simp); have h1 := I1.made hb1 liveI liveI_ok; rw [zeroI_cells] at h1; have H1 := Lib.hid h1; clear hb1 h1)
  generalize aggW (w1.alloc (.cells #[.int .i64 0, .int .i64 0, .int .i64 0, .int .i64 0, .bool false, .int .u8 0, .int .u8 0, .int .u8 0, .int .u8 0, .int .u8 0, .int .u8 0, .int .u8 0, .int .u8 0, .int .u8 0, .int .u8 0, .int .u8 0, .int .u8 0, .int .u8 0, .int .u8 0, .int .u8 0, .int .u8 0, .bool false, .int .u8 0, .int .u8 0, .int .u8 0, .int .u8 0, .int .u8 0, .int .u8 0, .int .u8 0, .int .u8 0, .int .u8 0, .int .u8 0, .int .u8 0, .int .u8 0, .int .u8 0, .int .u8 0, .int .u8 0, .int .u8 0, .bool false, .string ⟨#[]⟩] 26)) w1.heap.size _ = W1 at H1 ⊢
  clear hf1
  generalize w1.heap.size = m at H1 ⊢
  obtain ⟨k1, k2, k3, k4⟩ := HC.out _ _ H1.out
  go_wp2
  go_ret
  exact ⟨rfl, H1.out.2.1⟩

/-- The shape of a packet that came in. -/
def ipS : Shape (Int × (Int × (Int × (Int × ((Bool × (List UInt8 × Unit)) × ((Bool × (List UInt8 × Unit)) × (Bool × (List UInt8 × Unit)))))))) := pairS 1 (intS .i64) (pairS 1 (intS .i64) (pairS 1 (intS .i64) (pairS 1 (intS .i64) (pairS 17 addrS (pairS 17 addrS (pairS 1 boolS (pairS 1 strS unitS)))))))
theorem opens_ipS : Opens Try.prog 26 ipS :=
  opens_struct Try.underlying26 (opens_cons rfl (by kernel_rfl) (of_decide_eq_true (by kernel_rfl)) (opens_int Try.underlying3) (opens_cons rfl (by kernel_rfl) (of_decide_eq_true (by kernel_rfl)) (opens_int Try.underlying3)
    (opens_cons rfl (by kernel_rfl) (of_decide_eq_true (by kernel_rfl)) (opens_int Try.underlying3) (opens_cons rfl (by kernel_rfl) (of_decide_eq_true (by kernel_rfl)) (opens_int Try.underlying3)
    (opens_cons rfl (by kernel_rfl) (of_decide_eq_true (by kernel_rfl)) opens_addrS (opens_cons rfl (by kernel_rfl) (of_decide_eq_true (by kernel_rfl)) opens_addrS
    (opens_cons rfl (by kernel_rfl) (of_decide_eq_true (by kernel_rfl)) (opens_bool Try.underlying4) (opens_cons rfl (by kernel_rfl) (of_decide_eq_true (by kernel_rfl)) (opens_str Try.underlying9) (opens_nil (by kernel_rfl))))))))))
theorem ipS_cells {w : World} {cs : List Value} {x : _} (h : ipS w cs x) : ∃ p : Ip, cs = ipC p ∧ p.ok ∧ p.bd.length ≤ maxLen := by
  obtain ⟨c0, d0, rfl, _, h0, c1, d1, rfl, _, h1, c2, d2, rfl, _, h2, c3, d3, rfl, _, h3, c4, d4, rfl, _, h4, c5, d5, rfl, _, h5, c6, d6, rfl, _, h6, c7, d7, rfl, _, h7, h8⟩ := h
  obtain ⟨e0, _⟩ := h0
  obtain ⟨e1, _⟩ := h1
  obtain ⟨e2, _⟩ := h2
  obtain ⟨e3, _⟩ := h3
  obtain ⟨e4, l4⟩ := addrS_cells h4
  obtain ⟨e5, l5⟩ := addrS_cells h5
  have e6 : c6 = [.bool _] := h6
  obtain ⟨e7, l7⟩ := h7
  have e8 : d7 = [] := h8
  subst e0 e1 e2 e3 e4 e5 e6 e7 e8
  exact ⟨⟨_, _, _, _, _, _, _, _, _, _⟩, rfl, ⟨l4, l5⟩, l7⟩

/-- The document's bytes of a packet, its numbers in their bounds. -/
theorem rwrite5_any (p : Ip) (ho : p.ok) (hn : p.nums = true) (hf : p.f6 = false) (ht : p.t6 = false) (hl : p.bd.length ≤ 100000) (w : World) : Calls Try.prog 13 #[.agg (ipC p).toArray] w fun x w' => x = .returned (.string (Str p.wrt)) ∧ Below w.heap.size w w' := by
  cases hal : p.al with
  | true => exact rwrite5_al p ho hal hn hf ht hl w
  | false => exact rwrite5_no p ho hal hn hf ht hl w
theorem Ip.good_parts {p : Ip} (h : p.good = true) : p.nums = true ∧ p.f6 = false ∧ p.t6 = false ∧ goodV false p.fr = true ∧ goodV false p.to = true ∧ p.bd.length ≤ 1400 := by
  unfold Ip.good at h
  simp only [Bool.and_eq_true, Bool.not_eq_true', decide_eq_true_eq] at h
  obtain ⟨h1, h2, h3, h4, h5, h6⟩ := h
  rw [h2] at h4
  rw [h3] at h5
  exact ⟨h1, h2, h3, h4, h5, h6⟩
theorem Ip.wrt_length (p : Ip) (ho : p.ok) : p.wrt.length = p.sz := by
  unfold Ip.wrt Ip.sz
  have h1 := Ip.ha_length p
  have h2 := Ip.hb_length p ho
  rw [List.length_append, List.length_append, List.length_append, h1, h2, putL_length]
  cases p.al <;> simp [optL] <;> omega

/-- Two packets made later. -/
def I2 (w W : World) (m n : Nat) (f g : Ip) : Prop := I1 w W m f ∧ IpAt W n g ∧ m < n ∧ g.ok
theorem I2.below {w W W' : World} {m n : Nat} {f g : Ip} (h : I2 w W m n f g) (hb : Below W.heap.size W W') : I2 w W' m n f g := ⟨h.1.below hb, h.2.1.below hb, h.2.2⟩
theorem I2.made {w W : World} {m : Nat} {f : Ip} (h : I1 w W m f) (g : Ip) (hg : g.ok) : I2 w (aggW (W.alloc (.cells (ipC zeroI).toArray 26)) W.heap.size (ipC g)) m W.heap.size f g := by
  have hl := h.1.lt
  exact ⟨⟨aggW_other (ObjAt.alloc h.1 _) _ (by omega), aggW_below (h.2.1.alloc h.2.1.size _) h.2.1.size _, h.2.2.1, h.2.2.2⟩, aggW_obj (ObjAt.made W (ipC zeroI).toArray 26) (by rw [ipC_length hg, ipC_length zeroI_ok]) (ipC_one g), hl, hg⟩
end Go.Proofs.Ytbmacnbegbcgpaa
