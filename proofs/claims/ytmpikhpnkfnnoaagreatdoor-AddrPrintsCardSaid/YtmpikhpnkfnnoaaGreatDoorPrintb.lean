/-
  The contracts of addr.Print and addr.PrintMac.
-/
import Derived.Test.YtmpikhpnkfnnoaaGreatDoorPrint
namespace Go.Proofs.YtmpikhpnkfnnoaaGreatDoor
open Go.RowKit
set_option linter.unusedVariables false
attribute [local go_sem ↓] ld_addr ld_mac
attribute [local go_sem] ldr_addr ldr_mac

theorem joinBn (sb o cap n : Nat) (ns : List Nat) (hn : ns.length = n) (hns : ∀ n ∈ ns, n ≤ 255) (hlen : n ≤ 100) (w : World) (hrow : RowN .u8 w sb o ns) (hsb : sb < w.heap.size) (h : Env w) :
    Calls Tryz.prog 40 #[.slice (some ⟨sb, o, none⟩) n cap, .string (Str [46]), .int .i64 10] w fun e w' => e = .returned (.string (Str (jn10 ns))) ∧ Below w.heap.size w w' := by
  subst hn; exact joinB_any sb o cap ns hns hlen w hrow hsb h
set_option maxRecDepth 100000 in
set_option maxHeartbeats 1000000 in
theorem print_any (v : Bool) (l : List UInt8) (hl : l.length = 16) (w : World) (h : Env w) : Calls Tryz.prog 29 #[.agg (addrC v l).toArray] w fun e w' => e = .returned (.string (Str (prtV v l))) ∧ Below w.heap.size w w' := by
  have HE := Lib.hid h; clear h
  have HB := Lib.hid (BoxAt.made w v l hl 24)
  have HL := Lib.hid hl
  clear hl
  go_enter Tryz.func29, Tryz.ntmps29
  go_upto_region 1 with (fail)
  have hbx := HB.out
  clear HB
  generalize w.alloc (.cells (addrC v l).toArray 24) = W at hbx ⊢
  have HB := Lib.hid hbx
  obtain ⟨k0, -, k2, -, -⟩ := hbx
  cases v with
  | true =>
    go_wp2_with (go_at_call 39; refine (print6_any l HL.out _ (HE.out.below HB.out.2.2.2.2)).mono ?_; rintro e w1 ⟨rfl, hb1⟩; have HB1 := Lib.hid (bstep HB.out.2.2.2.2 hb1); clear hb1)
    go_ret
    exact ⟨rfl, HB1.out⟩
  | false =>
    clear k2
    have C := Lib.hid (joinBn w.heap.size 1 16 4 ((l.take 4).map (·.toNat)) (by rw [List.length_map, List.length_take, HL.out]; rfl) (fun n hn => by obtain ⟨b, _, rfl⟩ := List.mem_map.1 hn; have := b.toNat_lt; omega) (by omega) W (fun i hi => by
      have hi4 : i < 4 := by simp at hi; omega
      have := HB.out.2.1 i (by rw [HL.out]; omega)
      rw [this]; simp) HB.out.2.2.2.1 (HE.out.below HB.out.2.2.2.2))
    go_wp2_with (go_at_call 40; refine C.out.mono ?_; rintro e w1 ⟨rfl, hb1⟩; have HB1 := Lib.hid (bstep HB.out.2.2.2.2 hb1); clear hb1)
    go_ret
    exact ⟨by rw [← List.map_take]; rfl, HB1.out⟩

/-- An address of Ethernet as a text. -/
def macT (l : List UInt8) : List UInt8 := Lib.join (l.map fun b => hexL [b]) [58]
def MacSt (w wr : World) (l : List UInt8) (j g cap : Nat) : Prop :=
  wr.ownsRow w.heap.size 9 1 (.slice (some ⟨g, 0, none⟩) j cap) j ((l.take j).map fun b => Value.string (Str (hexL [b]))) ∧ Below w.heap.size w wr
theorem MacSt.below {w wr w2 : World} {l : List UInt8} {j g cap : Nat} (h : MacSt w wr l j g cap) (hb : Below wr.heap.size wr w2) : MacSt w w2 l j g cap := ⟨own_below h.1 hb, bstep h.2 hb⟩
theorem joinM_any (l : List UInt8) (g cap : Nat) (w0 w : World) (hlen : l.length ≤ 1000) (hown : w.ownsRow w0.heap.size 9 1 (.slice (some ⟨g, 0, none⟩) l.length cap) l.length (l.map fun b => Value.string (Str (hexL [b])))) :
    Calls Tryz.prog 42 #[.slice (some ⟨g, 0, none⟩) l.length cap, .string (Str [58])] w fun e w' => e = .returned (.string (Str (macT l))) ∧ Below w.heap.size w w' := by
  have hlt := (hown.lt g rfl).2
  have hcap : l.length ≤ cap := by
    rcases hown.2 with ⟨h, _⟩ | ⟨g', cap', cur, h, _, _, h4, _⟩
    · cases h
    · injection h with _ _ h3; subst h3; exact h4
  have h := Tryz.strings_Join g 0 cap (l.map fun b => Str (hexL [b])) (Str [58]) w (fun j x hj => by
    rw [List.getElem?_map] at hj
    obtain ⟨n, hn, rfl⟩ := Option.map_eq_some_iff.1 hj
    have hjl : j < l.length := (List.getElem?_eq_some_iff.1 hn).1
    have := hown.cellAt j (by simpa using hjl)
    rw [Nat.zero_add, this, List.getElem?_map, hn]; rfl) hlt (by simp; omega) (by simpa using hcap) (by
      rw [List.map_map]
      have := join_small (l.map fun b => hexL [b]) 58 2 (fun x hx => by obtain ⟨n, _, rfl⟩ := List.mem_map.1 hx; rw [hexL_length]; simp)
      have e : (l.map ((fun x : ByteArray => x.data.toList) ∘ fun b => Str (hexL [b]))) = l.map fun b => hexL [b] := rfl
      rw [e]
      show (Lib.join (l.map fun b => hexL [b]) [58]).length ≤ _
      simp at this
      omega)
  rw [List.length_map, List.map_map] at h
  exact h
set_option maxRecDepth 100000 in
set_option maxHeartbeats 2000000 in
theorem printMac_any (l : List UInt8) (hl : l.length = 6) (w : World) : Calls Tryz.prog 30 #[.agg (B8 l).toArray] w fun e w' => e = .returned (.string (Str (macT l))) ∧ Below w.heap.size w w' := by
  obtain ⟨i0, hi, hz0, hz1, hz2⟩ := info_parts Tryz.info_str
  have hrow : row? (w.alloc (.cells (B8 l).toArray 28)) w.heap.size 0 6 = some (B8 l) := obj_row (A := []) (C := []) (by simpa using ObjAt.made w (B8 l).toArray 28) rfl (by rw [B8_length, hl])
  have hb : Below w.heap.size w (w.alloc (.cells (B8 l).toArray 28)) := (Below.refl _ _).alloc (Nat.le_refl _) _
  have hlt : w.heap.size < (w.alloc (.cells (B8 l).toArray 28)).heap.size := by simp
  have HR := Lib.hid hrow
  have HB := Lib.hid hb
  have HT := Lib.hid hlt
  have HL := Lib.hid hl
  clear hrow hb hl hlt
  go_enter Tryz.func30, Tryz.ntmps30
  go_upto_region 1 with (fail)
  generalize w.alloc (.cells (B8 l).toArray 28) = W at HR HB HT ⊢
  go_wp2_with (at_make; refine wpList_make_own _ rfl _ _ 55 rfl w.heap.size 9 i0 (.string ByteArray.empty) 1 Tryz.underlying55 hi hz0 hz1 .i64 .i64 _ 6 rfl rfl rfl ?c1 ?c2 ?c3 ?_)
  case c1 => rw [hz2]; omega
  case c2 => unfold maxLen; omega
  case c3 => exact HB.out.size
  intro w1 hown hgrow
  have hb1 : Below w.heap.size w w1 := HB.out.grown hgrow HB.out.size (fun k h => by cases h)
  have hrow : row? w1 w.heap.size 0 6 = some (B8 l) := by
    obtain ⟨h1, h2⟩ := rangeAt_of_row? HR.out
    have := row?_of (w := w1) (b := w.heap.size) (o := 0) (cs := B8 l) (fun j x hj => hgrow.cell (h1 j x hj) (by simp))
    rwa [B8_length, HL.out] at this
  have HS : Hid (MacSt w w1 l 0 W.heap.size 6) := Lib.hid ⟨hown, hb1⟩
  clear hgrow hown hb1
  go_wp2
  clear hrow
  go_loopw [3, 8] (fun vp vi wr => ∃ (j g cp : Nat), j ≤ 6 ∧ vi = .int .i64 (j : Int) ∧ vp = .slice (some ⟨g, 0, none⟩) j cp ∧ Hid (MacSt w wr l j g cp)) (fun _ vi _ => 6 - (intOf vi).toNat)
  case atStart => exact ⟨0, _, _, by omega, rfl, rfl, HS⟩
  case round _ _ wr =>
    obtain ⟨j, g, cp, hj, rfl, rfl, hq⟩ := hrel
    by_cases hlt : j < 6
    · have hjl : j < l.length := by rw [HL.out]; exact hlt
      have hix : ∀ w0, (Instr.index 28 (.agg (B8 l).toArray) (.int .i64 (j : Int))).run Tryz.prog w0 = .ok (.int .u8 (((l[j]'hjl).toNat : Nat) : Int)) w0 := fun w0 => by
        have hp : (part 5 (B8 l).toArray (j * 1)).run Tryz.prog w0 = .ok (.int .u8 (((l[j]'hjl).toNat : Nat) : Int)) w0 := run_part_plain w0 (by kernel_rfl) (by
          rw [Nat.mul_one, List.getElem?_toArray, B8_get, List.getElem?_eq_getElem hjl]; rfl)
        have hz : (sizeOf 5).run Tryz.prog w0 = .ok 1 w0 := Tryz.sizeOf5 w0
        rw [Nat.mul_one] at hp
        simp [Instr.index, asIntOf, run_underlying Tryz.underlying28, hz, hp, hlt]
      have Ht := Lib.hid (show (l.take j).map (fun b => Value.string (Str (hexL [b]))) ++ [Value.string (Str (hexL [l[j]]))] = (l.take (j + 1)).map (fun b => Value.string (Str (hexL [b]))) by rw [List.take_succ_eq_append_getElem hjl, List.map_append]; rfl)
      generalize l[j] = c at hix Ht
      have hrw : RowAt (wr.alloc (.cells #[.int .u8 (c.toNat : Int)] 5)) wr.heap.size 0 [c] := row_of_obj (A := []) (by exact ObjAt.made wr _ _) rfl
      have hcv := run_string_row (P := Tryz.prog) 45 9 5 Tryz.underlying45 Tryz.underlying5 Tryz.underlying9 hrw 1 1 (by simp)
      rw [show ([c] : List UInt8).take 1 = [c] from rfl] at hcv
      have Hq1 := Lib.hid (hq.out.below ((Below.refl wr.heap.size wr).alloc (Nat.le_refl _) (.cells #[.int .u8 (c.toNat : Int)] 5)))
      clear hrw
      go_wp2_with (first
        | (go_at_call 41; refine (hex_any (Str [c]) (by rw [Str_size]; simp) _).mono ?_; rintro e w2 ⟨rfl, hb2⟩; have Hq2 := Lib.hid (Hq1.out.below hb2); clear hb2 hcv)
        | (at_builtin; refine wpList_append_lies _ rfl (.tmp 11) (.tmp 16) 55 rfl w.heap.size 9 i0 (.string ByteArray.empty) 1 16 Tryz.underlying55 hi hz0 hz1 hz2 rfl (by decide) _ j _ rfl (Hq2.out.1.alloc _) ⟨w2.heap.size, 0, none⟩ 1 1 [.string (Str (hexL [c]))] rfl rfl (World.news_of_block (heap_alloc_new w2 _)) (by simp [Value.oneCell']) (by decide) (by unfold maxLen; omega) (by omega) (by have := Hq2.out.2.size; simp; omega) _ rfl ?_; intro g2 cap2 w3 hown3 hgrow3 _ _; rw [Ht.out] at hown3; have Hown3 := Lib.hid hown3; have Hgrow3 := Lib.hid hgrow3; clear hown3 hgrow3; refine Hid.out ?_))
      have hb3 : Below w.heap.size w w3 := (Hq2.out.2.alloc Hq2.out.2.size _).grown Hgrow3.out (Hq2.out.2.alloc Hq2.out.2.size _).size (fun k hk => (Hq2.out.1.lt k hk).1)
      have HS3 : Hid (MacSt w w3 l (j + 1) g2 cap2) := Lib.hid ⟨Hown3.out, hb3⟩
      clear hb3
      refine Lib.hid ?_
      go_wp2_with fail
      go_roundw
      case rel => exact ⟨j + 1, g2, cap2, by omega, by go_num, rfl, HS3⟩
      case measure => simp [intOf]; omega
    · have hjj : j = 6 := by omega
      subst hjj
      have HJ := Lib.hid (fun ho => joinM_any l g cp w wr (by rw [HL.out]; omega) ho)
      rw [HL.out] at HJ
      have Hown := Lib.hid (show wr.ownsRow w.heap.size 9 1 (.slice (some ⟨g, 0, none⟩) 6 cp) 6 (l.map fun b => Value.string (Str (hexL [b]))) by have := hq.out.1; rwa [List.take_of_length_le (by rw [HL.out]; omega)] at this)
      rw [show ((6 : Nat) : Int) = 6 from rfl]
      go_wp2_with (go_at_call 42; refine (HJ.out Hown.out).mono ?_; rintro e w4 ⟨rfl, hb4⟩; have Hb4 := Lib.hid (bstep hq.out.2 hb4); clear hb4)
      go_ret
      exact ⟨rfl, Hb4.out⟩
end Go.Proofs.YtmpikhpnkfnnoaaGreatDoor
