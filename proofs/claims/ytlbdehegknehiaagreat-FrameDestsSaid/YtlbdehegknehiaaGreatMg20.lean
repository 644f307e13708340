/-
  Texts joined: FrA, IpD, IpE.
-/
import Derived.Test.YtlbdehegknehiaaGreatMg00
import Derived.Test.YtlbdehegknehiaaGreatMg19
import Derived.Test.YtlbdehegknehiaaGreatMg03
import Derived.Test.YtlbdehegknehiaaGreatMg02
import Derived.Test.YtlbdehegknehiaaGreatMg10
/- A part of the proof. -/
namespace Go.Proofs.YtlbdehegknehiaaGreat
set_option maxRecDepth 100000
set_option maxHeartbeats 4000000
open Go.RowKit
set_option linter.unusedVariables false
set_option linter.unusedSimpArgs false
attribute [local go_sem ↓] ld_addr st_addr bld_addr ld_tk st_tk bld_tk ld_sd st_sd bld_sd ld_pk st_pk bld_pk ld_ip st_ip bld_ip ld_iq st_iq bld_iq bld_b16
attribute [local go_sem] ldr_addr str_addr str_addr_at ldr_tk str_tk ldr_sd str_sd ldr_pk str_pk ldr_ip str_ip ldr_iq str_iq row?_drewN_eq row?_drew_eq
theorem bbox (w : World) (o : Obj) : Below w.heap.size w (w.alloc o) := (Below.refl _ _).alloc (Nat.le_refl _) o
theorem bbox2 (w : World) (o p : Obj) : Below w.heap.size w ((w.alloc o).alloc p) := (bbox w o).alloc (by simp) p
structure Bx (w W : World) (c : Array Value) (T : TypeId) (d : Array Value) (U : TypeId) : Prop where
  one : ObjAt W w.heap.size c T
  two : ObjAt W (w.heap.size + 1) d U
  blw : Below w.heap.size w W
theorem Bx.made (w : World) (c : Array Value) (T : TypeId) (d : Array Value) (U : TypeId) : Bx w ((w.alloc (.cells c T)).alloc (.cells d U)) c T d U := by
  refine ⟨(ObjAt.made w _ _).alloc _, ?_, bbox2 _ _ _⟩
  have := ObjAt.made (w.alloc (.cells c T)) d U
  rw [show (w.alloc (.cells c T)).heap.size = w.heap.size + 1 by simp] at this
  exact this
theorem Bx.below {w W W' : World} {c d : Array Value} {T U : TypeId} (h : Bx w W c T d U) (hb : Below W.heap.size W W') : Bx w W' c T d U := ⟨obj_keep h.one hb, obj_keep h.two hb, bstep h.blw hb⟩
theorem Bx.free {w W : World} {c d : Array Value} {T U : TypeId} (h : Bx w W c T d U) (n : Nat) (hn : n ≤ d.size) : free? W (w.heap.size + 1) 0 n = true := obj_free h.two (by omega)
theorem Bx.done {w W : World} {c d : Array Value} {T U : TypeId} (h : Bx w W c T d U) (L : List Value) (hL : L.length = d.size) : row? (aggW W (w.heap.size + 1) L) (w.heap.size + 1) 0 d.size = some L ∧ Below w.heap.size w (aggW W (w.heap.size + 1) L) :=
  ⟨aggW_row (h.free _ (Nat.le_refl _)) hL, aggW_below h.blw (by omega) _⟩
theorem ret_boolF {a b : Bool} (h : a = b) : Ending.returned (.bool a) = .returned (.bool b) := by rw [h]
theorem needsA_any (t : TK) (us ur : Value) (w : World) (ho : adOk t.g) : Calls Tryz.prog 68 #[.agg (tkC t us ur).toArray] w fun x w' => x = .returned (.bool (needsA t)) ∧ Below w.heap.size w w' := by
  have H0 := zh (TkAt.made w t us ur ho)
  have HB := zh (bbox w (.cells (tkC t us ur).toArray 28))
  obtain ⟨R, hR⟩ : ∃ R, R = needsA t := ⟨_, rfl⟩
  rw [← hR]
  have HR := zh hR; clear hR ho
  go_enter Tryz.func68, Tryz.ntmps68
  go_upto_region 1 with (fail)
  generalize w.alloc (.cells (tkC t us ur).toArray 28) = W at H0 HB ⊢
  have c0 := H0.out.v6
  have c1 := H0.out.ver
  obtain ⟨v, hv⟩ : ∃ v, v = t.v6 := ⟨_, rfl⟩
  obtain ⟨n, hn⟩ : ∃ n, n = t.ver := ⟨_, rfl⟩
  rw [← hv] at c0
  rw [← hn] at c1
  have HR2 : Hid (R = (v || decide (1 < n))) := zh (by rw [HR.out, hv, hn]; rfl)
  clear hv hn H0 HR
  cases v with
  | true =>
    go_wp2
    go_ret
    exact ⟨ret_boolF (by rw [HR2.out]; rfl), HB.out⟩
  | false =>
    by_cases h : 1 < n
    · have hd : decide (1 < n) = true := decide_eq_true h
      go_wp2
      go_ret
      exact ⟨ret_boolF (by rw [HR2.out]; simp [h]), HB.out⟩
    · have hd : decide (1 < n) = false := decide_eq_false h
      go_wp2
      go_ret
      exact ⟨ret_boolF (by rw [HR2.out]; simp [h]), HB.out⟩
theorem lastV_any (v : Bool) (w : World) : Calls Tryz.prog 60 #[.bool v] w fun x w' => x = .returned (.int .i64 (lastN v)) ∧ w = w' := by
  cases v
  all_goals (
    go_enter Tryz.func60, Tryz.ntmps60
    go_wp2
    go_ret
    exact ⟨rfl, rfl⟩)
theorem zeroA_cells : (adC zeroA).toArray = zz17 := rfl
theorem bld_on6 (k : UInt8) (w : World) : (aggBuild 24 #[(0, .bool true), (1, .agg (B8 (onL true k).2).toArray)]).run Tryz.prog w = .ok (.agg (adC (onL true k)).toArray) w := bld_run _ _ _ (by kernel_rfl) _
theorem bld_onb (k : UInt8) (w : World) : (aggBuild 22 #[(0, .int .u8 255), (1, .int .u8 2), (15, .int .u8 (k.toNat : Int))]).run Tryz.prog w = .ok (.agg (B8 (onL true k).2).toArray) w := bld_run _ _ _ (by kernel_rfl) _
theorem onL6_any (k : UInt8) (w : World) : Calls Tryz.prog 59 #[.bool true, .int .u8 (k.toNat : Int)] w fun x w' => x = .returned (.agg (adC (onL true k)).toArray) ∧ Below w.heap.size w w' := by
  have h1 := fun w0 => bld_onb k w0
  have h2 := fun w0 => bld_on6 k w0
  have hok := fok_addr (onL true k).1 (onL true k).2 (onL_ok true k)
  rw [show addrC (onL true k).1 (onL true k).2 = adC (onL true k) from rfl] at hok
  have HO := zh (onL_ok true k)
  generalize B8 (onL true k).2 = Bq at h1 h2
  generalize onL true k = A at h2 hok HO ⊢
  generalize (k.toNat : Int) = kn at h1 ⊢
  go_enter Tryz.func59, Tryz.ntmps59
  go_upto_region 1 with (fail)
  have hf := free_made w zz17 24 17 (by simp)
  have Hb := zh (bbox w (.cells zz17 24))
  generalize w.alloc (.cells zz17 24) = W at hf Hb ⊢
  go_wp2
  have hr := aggW_row (cs := adC A) hf (adC_length HO.out)
  exact bodyPost_ret (results_cell Tryz.results59 rfl (ld_some hr (ldr_addr _ _ _))) rfl ⟨rfl, aggW_below Hb.out (Nat.le_refl _) _⟩
theorem onL4_any (k : UInt8) (w : World) : Calls Tryz.prog 59 #[.bool false, .int .u8 (k.toNat : Int)] w fun x w' => x = .returned (.agg (adC (onL false k)).toArray) ∧ Below w.heap.size w w' := by
  have HC : Hid (∀ W, Calls Tryz.prog 76 #[.int .u8 224, .int .u8 0, .int .u8 0, .int .u8 (k.toNat : Int)] W fun x w' => x = .returned (.agg (adC (onL false k)).toArray) ∧ Below W.heap.size W w') := zh fun W => ip4_any 224 0 0 (k.toNat : Int) W
  have hok := fok_addr (onL false k).1 (onL false k).2 (onL_ok false k)
  rw [show addrC (onL false k).1 (onL false k).2 = adC (onL false k) from rfl] at hok
  have HO := zh (onL_ok false k)
  generalize onL false k = A at HC hok HO ⊢
  generalize (k.toNat : Int) = kn at HC ⊢
  go_enter Tryz.func59, Tryz.ntmps59
  go_upto_region 1 with (fail)
  have H1 := zh (ObjAt.made w zz17 24)
  have Hb := zh (bbox w (.cells zz17 24))
  generalize w.alloc (.cells zz17 24) = W at H1 Hb ⊢
  go_wp2_with (go_at_call 76; (with_reducible refine (HC.out _).mono ?_); rintro x wn ⟨rfl, hb⟩; replace H1 := zh (obj_keep H1.out hb); replace Hb := zh (bstep Hb.out hb); clear hb; have hf : free? wn w.heap.size 0 17 = true := obj_free H1.out (by simp))
  have hr := aggW_row (cs := adC A) hf (adC_length HO.out)
  exact bodyPost_ret (results_cell Tryz.results59 rfl (ld_some hr (ldr_addr _ _ _))) rfl ⟨rfl, aggW_below Hb.out (Nat.le_refl _) _⟩
theorem onL_any (v : Bool) (k : UInt8) (w : World) : Calls Tryz.prog 59 #[.bool v, .int .u8 (k.toNat : Int)] w fun x w' => x = .returned (.agg (adC (onL v k)).toArray) ∧ Below w.heap.size w w' := by
  cases v
  · exact onL4_any k w
  · exact onL6_any k w
theorem bld_p4 (p : PK) (ho : p.ok) (w : World) : (aggBuild 78 #[(4, .agg (adC p.fr).toArray), (5, .agg (adC p.tw).toArray), (3, .int .i64 p.pro), (2, .int .i64 p.hop), (6, .bool p.al), (7, .string (Str p.bd))]).run Tryz.prog w = .ok (.agg (ipC p.ip).toArray) w := by
  refine bld_run _ _ _ ?_ w
  obtain ⟨⟨v, l⟩, ⟨u, m⟩, pro, hop, al, bd⟩ := p
  obtain ⟨h1, h2⟩ := ho
  simp only [adOk] at h1 h2
  obtain ⟨a0, a1, a2, a3, a4, a5, a6, a7, a8, a9, aa, ab, ac, ad, ae, af, rfl⟩ := list16 h1
  obtain ⟨b0, b1, b2, b3, b4, b5, b6, b7, b8, b9, ba, bb, bc, bd', be, bf, rfl⟩ := list16 h2
  kernel_rfl
theorem pkt4_any (p : PK) (ho : p.ok) (w : World) : Calls Tryz.prog 67 #[.agg (pkC p).toArray] w fun x w' => x = .returned (.agg (ipC p.ip).toArray) ∧ Below w.heap.size w w' := by
  have H0 := zh (Bx.made w (pkC p).toArray 58 (ipC zeroI).toArray 78)
  have hb := fun w0 => bld_p4 p ho w0
  have hok := fok_ip (PK.ip_ok ho)
  have HL := zh (ipC_length (PK.ip_ok ho))
  have HO := zh ho
  clear ho
  rw [show (ipC zeroI).toArray = zz40 from rfl] at H0
  generalize ipC p.ip = L at hb hok HL ⊢
  go_enter Tryz.func67, Tryz.ntmps67
  go_upto_region 1 with (fail)
  generalize (w.alloc (.cells (pkC p).toArray 58)).alloc _ = W at H0 ⊢
  obtain ⟨c0, c1, c2, c3, c4, c5, c6, c7⟩ := PV.of H0.out.one HO.out
  have hf := H0.out.free 40 (by simp)
  go_wp2
  obtain ⟨q1, q2⟩ := H0.out.done L (by rw [HL.out]; rfl)
  exact bodyPost_ret (results_cell Tryz.results67 rfl (ld_some q1 (ldr_ip _ _ _))) rfl ⟨rfl, q2⟩
theorem bld_p6 (p : PK) (ho : p.ok) (w : World) : (aggBuild 75 #[(4, .agg (adC p.fr).toArray), (5, .agg (adC p.tw).toArray), (2, .int .i64 p.pro), (3, .int .i64 p.hop), (6, .bool p.al), (7, .string (Str p.bd))]).run Tryz.prog w = .ok (.agg (ipC p.iq).toArray) w := by
  refine bld_run _ _ _ ?_ w
  obtain ⟨⟨v, l⟩, ⟨u, m⟩, pro, hop, al, bd⟩ := p
  obtain ⟨h1, h2⟩ := ho
  simp only [adOk] at h1 h2
  obtain ⟨a0, a1, a2, a3, a4, a5, a6, a7, a8, a9, aa, ab, ac, ad, ae, af, rfl⟩ := list16 h1
  obtain ⟨b0, b1, b2, b3, b4, b5, b6, b7, b8, b9, ba, bb, bc, bd', be, bf, rfl⟩ := list16 h2
  kernel_rfl
theorem pkt6_any (p : PK) (ho : p.ok) (w : World) : Calls Tryz.prog 65 #[.agg (pkC p).toArray] w fun x w' => x = .returned (.agg (ipC p.iq).toArray) ∧ Below w.heap.size w w' := by
  have H0 := zh (Bx.made w (pkC p).toArray 58 (ipC zeroI).toArray 75)
  have hb := fun w0 => bld_p6 p ho w0
  have hok := fok_ip (PK.iq_ok ho)
  have HL := zh (ipC_length (PK.iq_ok ho))
  have HO := zh ho
  clear ho
  rw [show (ipC zeroI).toArray = zz40 from rfl] at H0
  generalize ipC p.iq = L at hb hok HL ⊢
  go_enter Tryz.func65, Tryz.ntmps65
  go_upto_region 1 with (fail)
  generalize (w.alloc (.cells (pkC p).toArray 58)).alloc _ = W at H0 ⊢
  obtain ⟨c0, c1, c2, c3, c4, c5, c6, c7⟩ := PV.of H0.out.one HO.out
  have hf := H0.out.free 40 (by simp)
  go_wp2
  obtain ⟨q1, q2⟩ := H0.out.done L (by rw [HL.out]; rfl)
  exact bodyPost_ret (results_cell Tryz.results65 rfl (ld_some q1 (ldr_iq _ _ _))) rfl ⟨rfl, q2⟩
end Go.Proofs.YtlbdehegknehiaaGreat

/- A part of the proof. -/
namespace Go.Proofs.YtlbdehegknehiaaGreat
set_option maxRecDepth 100000
set_option maxHeartbeats 2000000
open Go.RowKit
set_option linter.unusedVariables false
attribute [local go_sem ↓] bld_ip ld_ip st_ip ld_addr st_addr
attribute [local go_sem] ldr_ip str_ip ldr_addr str_addr
theorem Ip.good_eq (p : Ip) : p.good = (decide (0 ≤ p.tos ∧ p.tos ≤ 255) && (decide (0 ≤ p.ttl ∧ p.ttl ≤ 255) && (decide (0 ≤ p.pro ∧ p.pro ≤ 255) && (decide (0 ≤ p.id ∧ p.id ≤ 65535) && ((goodV p.f6 p.fr && !p.f6) && ((goodV p.t6 p.to && !p.t6) && decide ((p.bd.length : Int) ≤ 1400))))))) := by
  unfold Ip.good Ip.nums
  rw [Bool.eq_iff_iff]
  simp
  constructor
  · rintro ⟨⟨h1, h2, h3, h4, h5, h6, h7, h8⟩, h9, h10, h11, h12, h13⟩
    exact ⟨⟨h1, h2⟩, ⟨h3, h4⟩, ⟨h5, h6⟩, ⟨h7, h8⟩, ⟨h11, h9⟩, ⟨h12, h10⟩, by omega⟩
  · rintro ⟨⟨h1, h2⟩, ⟨h3, h4⟩, ⟨h5, h6⟩, ⟨h7, h8⟩, ⟨h11, h9⟩, ⟨h12, h10⟩, h13⟩
    exact ⟨⟨h1, h2, h3, h4, h5, h6, h7, h8⟩, h9, h10, h11, h12, by omega⟩
theorem good5_any (p : Ip) (ho : p.ok) (hl : p.bd.length ≤ 1000000) (w : World) : Calls Tryz.prog 142 #[.agg (ipC p).toArray] w fun x w' => x = .returned (.bool p.good) ∧ Below w.heap.size w w' := by
  obtain ⟨R, hR⟩ : ∃ R, R = p.good := ⟨_, rfl⟩
  rw [← hR]
  rw [Ip.good_eq] at hR
  have HB := zh (IB.made w p)
  have hsz := Str_size p.bd
  have HK : Hid (∀ W, IB w W p → row? W w.heap.size 4 17 = some (addrC p.f6 p.fr) ∧ row? W w.heap.size 21 17 = some (addrC p.t6 p.to) ∧ W.cell? ⟨w.heap.size, 39, none⟩ = some (.string (Str p.bd))) := zh fun W h => ⟨h.1.rfr ho, h.1.rto ho, h.1.bd ho⟩
  have HN : Hid (∀ W, IB w W p → W.cell? ⟨w.heap.size, 0, none⟩ = some (.int .i64 p.tos) ∧ W.cell? ⟨w.heap.size, 1, none⟩ = some (.int .i64 p.id) ∧ W.cell? ⟨w.heap.size, 2, none⟩ = some (.int .i64 p.ttl) ∧ W.cell? ⟨w.heap.size, 3, none⟩ = some (.int .i64 p.pro)) := zh fun W h => ⟨h.1.tos, h.1.id, h.1.ttl, h.1.pro⟩
  have H1 := zh (fun W => inr_any p.tos 255 W)
  have H2 := zh (fun W => inr_any p.ttl 255 W)
  have H3 := zh (fun W => inr_any p.pro 255 W)
  have H4 := zh (fun W => inr_any p.id 65535 W)
  have H5 := zh (fun W => gaddr_any p.f6 p.fr ho.1 W)
  have H6 := zh (fun W => gaddr_any p.t6 p.to ho.2 W)
  generalize decide (0 ≤ p.tos ∧ p.tos ≤ 255) = b1 at H1 hR
  generalize decide (0 ≤ p.ttl ∧ p.ttl ≤ 255) = b2 at H2 hR
  generalize decide (0 ≤ p.pro ∧ p.pro ≤ 255) = b3 at H3 hR
  generalize decide (0 ≤ p.id ∧ p.id ≤ 65535) = b4 at H4 hR
  generalize (goodV p.f6 p.fr && !p.f6) = b5 at H5 hR
  generalize (goodV p.t6 p.to && !p.t6) = b6 at H6 hR
  have HR := zh hR; clear hR
  go_enter Tryz.func142, Tryz.ntmps142
  go_upto_region 1 with (fail)
  generalize w.alloc (.cells (ipC p).toArray 78) = W at HB ⊢
  obtain ⟨n0, n1, n2, n3⟩ := HN.out _ HB.out
  obtain ⟨r1, r2, c5⟩ := HK.out _ HB.out
  clear ho
  cases b1 with
  | false =>
    go_wp2_with (first
      | (go_at_call 189; (with_reducible refine (H1.out _).mono ?_); rintro x w1 ⟨rfl, rfl⟩))
    go_ret
    exact ⟨ret_bool (by rw [HR.out]; first | rfl | simp), HB.out.2⟩
  | true =>
    cases b2 with
    | false =>
      go_wp2_with (first
        | (go_at_call 189; (with_reducible refine (H1.out _).mono ?_); rintro x w1 ⟨rfl, rfl⟩)
        | (go_at_call 189; (with_reducible refine (H2.out _).mono ?_); rintro x w1 ⟨rfl, rfl⟩))
      go_ret
      exact ⟨ret_bool (by rw [HR.out]; first | rfl | simp), HB.out.2⟩
    | true =>
      cases b3 with
      | false =>
        go_wp2_with (first
          | (go_at_call 189; (with_reducible refine (H1.out _).mono ?_); rintro x w1 ⟨rfl, rfl⟩)
          | (go_at_call 189; (with_reducible refine (H2.out _).mono ?_); rintro x w1 ⟨rfl, rfl⟩)
          | (go_at_call 189; (with_reducible refine (H3.out _).mono ?_); rintro x w1 ⟨rfl, rfl⟩))
        go_ret
        exact ⟨ret_bool (by rw [HR.out]; first | rfl | simp), HB.out.2⟩
      | true =>
        cases b4 with
        | false =>
          go_wp2_with (first
            | (go_at_call 189; (with_reducible refine (H1.out _).mono ?_); rintro x w1 ⟨rfl, rfl⟩)
            | (go_at_call 189; (with_reducible refine (H2.out _).mono ?_); rintro x w1 ⟨rfl, rfl⟩)
            | (go_at_call 189; (with_reducible refine (H3.out _).mono ?_); rintro x w1 ⟨rfl, rfl⟩)
            | (go_at_call 189; (with_reducible refine (H4.out _).mono ?_); rintro x w1 ⟨rfl, rfl⟩))
          go_ret
          exact ⟨ret_bool (by rw [HR.out]; first | rfl | simp), HB.out.2⟩
        | true =>
          cases b5 with
          | false =>
            go_wp2_with (first
              | (go_at_call 189; (with_reducible refine (H1.out _).mono ?_); rintro x w1 ⟨rfl, rfl⟩)
              | (go_at_call 189; (with_reducible refine (H2.out _).mono ?_); rintro x w1 ⟨rfl, rfl⟩)
              | (go_at_call 189; (with_reducible refine (H3.out _).mono ?_); rintro x w1 ⟨rfl, rfl⟩)
              | (go_at_call 189; (with_reducible refine (H4.out _).mono ?_); rintro x w1 ⟨rfl, rfl⟩)
              | (go_at_call 190; (with_reducible refine (H5.out _).mono ?_); rintro x w5 ⟨rfl, hb5⟩; have G5 := zh (HB.out.keep hb5); clear hb5 r1 r2 c5; obtain ⟨r1, r2, c5⟩ := HK.out _ G5.out))
            go_ret
            exact ⟨ret_bool (by rw [HR.out]; first | rfl | simp), G5.out.2⟩
          | true =>
            cases b6 with
            | false =>
              go_wp2_with (first
                | (go_at_call 189; (with_reducible refine (H1.out _).mono ?_); rintro x w1 ⟨rfl, rfl⟩)
                | (go_at_call 189; (with_reducible refine (H2.out _).mono ?_); rintro x w1 ⟨rfl, rfl⟩)
                | (go_at_call 189; (with_reducible refine (H3.out _).mono ?_); rintro x w1 ⟨rfl, rfl⟩)
                | (go_at_call 189; (with_reducible refine (H4.out _).mono ?_); rintro x w1 ⟨rfl, rfl⟩)
                | (go_at_call 190; (with_reducible refine (H5.out _).mono ?_); rintro x w5 ⟨rfl, hb5⟩; have G5 := zh (HB.out.keep hb5); clear hb5 r1 r2 c5; obtain ⟨r1, r2, c5⟩ := HK.out _ G5.out)
                | (go_at_call 190; (with_reducible refine (H6.out _).mono ?_); rintro x w6 ⟨rfl, hb6⟩; have G6 := zh (G5.out.keep hb6); clear hb6 r1 r2 c5; obtain ⟨r1, r2, c5⟩ := HK.out _ G6.out))
              go_ret
              exact ⟨ret_bool (by rw [HR.out]; first | rfl | simp), G6.out.2⟩
            | true =>
              go_wp2_with (first
                | (go_at_call 189; (with_reducible refine (H1.out _).mono ?_); rintro x w1 ⟨rfl, rfl⟩)
                | (go_at_call 189; (with_reducible refine (H2.out _).mono ?_); rintro x w1 ⟨rfl, rfl⟩)
                | (go_at_call 189; (with_reducible refine (H3.out _).mono ?_); rintro x w1 ⟨rfl, rfl⟩)
                | (go_at_call 189; (with_reducible refine (H4.out _).mono ?_); rintro x w1 ⟨rfl, rfl⟩)
                | (go_at_call 190; (with_reducible refine (H5.out _).mono ?_); rintro x w5 ⟨rfl, hb5⟩; have G5 := zh (HB.out.keep hb5); clear hb5 r1 r2 c5; obtain ⟨r1, r2, c5⟩ := HK.out _ G5.out)
                | (go_at_call 190; (with_reducible refine (H6.out _).mono ?_); rintro x w6 ⟨rfl, hb6⟩; have G6 := zh (G5.out.keep hb6); clear hb6 r1 r2 c5; obtain ⟨r1, r2, c5⟩ := HK.out _ G6.out))
              go_ret
              exact ⟨ret_bool (by rw [HR.out]; first | rfl | simp), G6.out.2⟩
end Go.Proofs.YtlbdehegknehiaaGreat

/- A part of the proof. -/
namespace Go.Proofs.YtlbdehegknehiaaGreat
set_option maxRecDepth 100000
set_option maxHeartbeats 2000000
open Go.RowKit
set_option linter.unusedVariables false
attribute [local go_sem ↓] bld_ip ld_ip st_ip ld_addr st_addr
attribute [local go_sem] ldr_ip str_ip ldr_addr str_addr
theorem optL_length (b : Bool) : (optL b).length ≤ 4 := by cases b <;> simp [optL]
def Ip.sz (p : Ip) : Nat := 20 + (optL p.al).length + p.bd.length
theorem size5_any (p : Ip) (ho : p.ok) (hl : p.bd.length ≤ 1000000) (w : World) : Calls Tryz.prog 143 #[.agg (ipC p).toArray] w fun x w' => x = .returned (.int .i64 p.sz) ∧ Below w.heap.size w w' := by
  obtain ⟨R, hR⟩ : ∃ R, R = p.sz := ⟨_, rfl⟩
  rw [← hR]
  unfold Ip.sz at hR
  have HB := zh (IB.made w p)
  have hsz := Str_size p.bd
  have hsz2 := Str_size (optL p.al)
  have ho4 := optL_length p.al
  have HK : Hid (∀ W, IB w W p → row? W w.heap.size 0 40 = some (ipC p) ∧ W.cell? ⟨w.heap.size, 39, none⟩ = some (.string (Str p.bd)) ∧ IB w W p) := zh fun W h => ⟨h.1.row ho, h.1.bd ho, h⟩
  have HO := zh (fun W => opts_any p ho W)
  generalize (optL p.al).length = k at hsz2 ho4 hR
  generalize p.bd.length = n at hsz hl hR
  generalize Str (optL p.al) = S at HO hsz2
  have hw1 : IntKind.i64.wrap (20 + (k : Int)) = 20 + (k : Int) := by simp only [IntKind.wrap_i64]; omega
  have hw2 : IntKind.i64.wrap (20 + (k : Int) + (n : Int)) = 20 + (k : Int) + (n : Int) := by simp only [IntKind.wrap_i64]; omega
  have HR := zh hR; clear hR ho
  go_enter Tryz.func143, Tryz.ntmps143
  go_upto_region 1 with (fail)
  generalize w.alloc (.cells (ipC p).toArray 78) = W at HB ⊢
  go_region_held3 (fun W => row? W w.heap.size 0 40 = some (ipC p) ∧ W.cell? ⟨w.heap.size, 39, none⟩ = some (.string (Str p.bd)) ∧ IB w W p) (first | assumption | exact HK.out _ HB.out | exact HK.out _ (HB.out.drewN 1)) (first
    | (go_at_call 146; (with_reducible refine (HO.out _).mono ?_); rintro x w3 ⟨rfl, hb3⟩; have hk := HK.out _ (IB.keep (And.right (And.right (by assumption))) hb3); clear hb3))
  go_wp2_with fail
  go_ret
  exact ⟨ret_int (by rw [HR.out]; simp), hk.2.2.2⟩
end Go.Proofs.YtlbdehegknehiaaGreat

