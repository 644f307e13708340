/-
  Texts joined: SeZ, EnvOf.
-/
import Derived.Test.YtalnfjnfcloonaaGreatDoorSeV
import Derived.Test.YtalnfjnfcloonaaGreatDoorMg25
import Derived.Test.YtalnfjnfcloonaaGreatDoorRows
import Derived.Lib.LaidU8
import Derived.Shelf.Vars
import Derived.Handed
import Derived.Lay
import Derived.MakeChecks
/-
  The walk of SrcsTexts.
-/
namespace Go.Proofs.YtalnfjnfcloonaaGreatDoor
open Go.RowKit
set_option linter.unusedVariables false
set_option linter.unusedSimpArgs false

abbrev adsS := sliceS 17 addrS
theorem opens_adsS : Opens Tryz.prog 22 adsS := opens_slice Tryz.underlying22 (by kernel_rfl) (by omega) opens_addrS
theorem nil_of {w : World} {v : Value} {xs : List (Bool × (List UInt8 × Unit))} (h : sliceS 17 addrS w [v] xs) : ∀ n c, v = .slice none n c → c = 0 := by
  rcases h with ⟨h1, h2⟩ | ⟨a, cap, h1, _⟩
  · simp at h1
    intro n c e; rw [h1] at e; cases e; rfl
  · simp at h1
    intro n c e; rw [h1] at e; cases e

set_option maxRecDepth 100000 in
set_option maxHeartbeats 8000000 in
theorem texts_any (v : Value) (s : ByteArray) (hs : s.size ≤ maxLen) (l0 : List AD) (w : World) (hE : Env w) (ha : Ads w v l0) (hpa : ∀ n c, v = .slice none n c → c = 0) :
    Calls Tryz.prog 3 #[v, .string s] w fun x w' => x = .returned (.bool true) ∧ Below w.heap.size w w' := by
  have H : Hid (Hold w w [] [(v, l0)]) := Lib.hid ⟨Below.refl _ _, hE, (fun q hq => by cases hq), fun p hp => by
    simp only [List.mem_cons, List.not_mem_nil, or_false] at hp
    subst hp
    exact ⟨ha, hpa⟩⟩
  obtain ⟨q, cap, ev, _, _⟩ := ha.len
  have HOK0 := Lib.hid ha.ok
  obtain ⟨sl, hslE⟩ : ∃ l : List UInt8, Str l = cutB s 80 := ⟨(cutB s 80).data.toList, Str_of _⟩
  have hsl : sl.length ≤ 80 := by have := cutB_size s 80; rw [← hslE, Str_size] at this; exact this
  have HC : Hid (∀ W, Calls Tryz.prog 4 #[.string s, .int .i64 80] W fun x w' => x = .returned (.string (Str sl)) ∧ W = w') := Lib.hid fun W => by
    rw [hslE]; exact cut_any s hs 80 (by omega) W
  generalize l0.length = nl at ev
  subst ev
  clear ha hpa hE
  obtain ⟨lt, hlt⟩ : ∃ s, l0.take 8 = s := ⟨_, rfl⟩
  have HLT := Lib.hid hlt
  have hl8 : lt.length ≤ 8 := by rw [← hlt, List.length_take]; omega
  have HL8 : Hid (lt.length ≤ 1000) := Lib.hid (by omega)
  obtain ⟨a, hea⟩ : ∃ a, ofA lt = a := ⟨_, rfl⟩
  have hla : a.length ≤ 8 := by rw [← hea]; exact Nat.le_trans (ofA_length _) hl8
  have hsa : Sorted ltA a := by rw [← hea]; exact ofS_sorted (ltA_ord goodB) _
  have hga : ∀ x ∈ a, goodB x = true := by rw [← hea]; exact ofS_good (ltA_ord goodB) _
  have hoa : ∀ x ∈ a, adOk x := by rw [← hea]; exact ofA_ok (fun x hx => HOK0.out x (by rw [← hlt] at hx; exact List.mem_of_mem_take hx))
  have HEA := Lib.hid hea
  have HA1 : Hid (a.length ≤ 1000) := Lib.hid (by omega)
  have HA8 : Hid (a.take 8 = a) := Lib.hid (List.take_of_length_le hla)
  have HNE : Hid (∀ x ∈ a, prtB x ≠ []) := Lib.hid fun x hx => prtB_ne (hoa x hx) (hga x hx)
  obtain ⟨ta, hta⟩ : ∃ t, prtL a = t := ⟨_, rfl⟩
  have HTA := Lib.hid hta
  have HPA : Hid (parseL ta = some a) := Lib.hid (by rw [← hta]; exact parseL_prt hoa hsa hga)
  have HTL : Hid (ta.length ≤ 1000000) := Lib.hid (by rw [← hta]; exact prtL_len (by omega))
  have HSL : Hid (sl.length ≤ 1000000) := Lib.hid (by omega)
  have hbt : ((Str ta).toList == (Str ta).toList) = true := by simp
  have hbs : ((Str sl).toList == (Str sl).toList) = true := by simp
  cases hps : parseL sl with
  | none =>
    have HPS := Lib.hid hps
    clear hlt hl8 hea hla hsa hga hoa hta hps hsl hslE
    go_enter Tryz.func3, Tryz.ntmps3
    go_wp2_with (first
      | (go_at_call 4; (with_reducible refine (HC.out _).mono ?_); rintro x wn ⟨rfl, rfl⟩)
      | (go_at_call 6; (with_reducible refine' (h_addrs8 (w := w) (B := []) a a _ HA8.out _ _).mono _); rotate_left; assumption; (repeat (first | exact List.mem_cons_self | apply List.mem_cons_of_mem)); rintro x wn ⟨p, c, rfl, H⟩)
      | (go_at_call 6; (with_reducible refine' (h_addrs8 (w := w) (B := []) l0 lt _ HLT.out _ _).mono _); rotate_left; assumption; (repeat (first | exact List.mem_cons_self | apply List.mem_cons_of_mem)); rintro x wn ⟨p, c, rfl, H⟩)
      | (go_at_call 5; (with_reducible refine' (h_rof (w := w) (B := []) lt a _ HL8.out HEA.out _ _).mono _); rotate_left; assumption; (repeat (first | exact List.mem_cons_self | apply List.mem_cons_of_mem)); rintro x wn ⟨p, c, rfl, H⟩)
      | (go_at_call 8; (with_reducible refine' (h_rprint (w := w) (B := []) a ta _ HTA.out HA1.out _ _).mono _); rotate_left; assumption; (repeat (first | exact List.mem_cons_self | apply List.mem_cons_of_mem)); rintro x wn ⟨rfl, H⟩)
      | (go_at_call 9; (with_reducible refine' (h_print (w := w) (B := []) a ta _ HTA.out HA1.out HNE.out _ _).mono _); rotate_left; assumption; (repeat (first | exact List.mem_cons_self | apply List.mem_cons_of_mem)); rintro x wn ⟨rfl, H⟩)
      | (go_at_call 7; (with_reducible refine' (h_parse (w := w) (B := []) ta a HTL.out HPA.out _).mono _); rotate_left; assumption; rintro x wn ⟨p, c, rfl, H⟩)
      | (go_at_call 10; (with_reducible refine' (h_rsame (w := w) (B := []) a a true _ _ (decide_eq_true rfl) _ _ _).mono _); rotate_left; assumption; (repeat (first | exact List.mem_cons_self | apply List.mem_cons_of_mem)); rintro x wn ⟨rfl, H⟩)
      | (go_at_call 11; (with_reducible refine' (h_lives (w := w) (B := []) _).mono _); rotate_left; assumption; rintro x wn ⟨rfl, H⟩)
      | (go_at_call 7; (with_reducible refine' (h_parse_none (w := w) (B := []) sl HSL.out HPS.out _).mono _); rotate_left; assumption; rintro x wn ⟨rfl, H⟩))
    go_ret
    exact ⟨rfl, H.out.1⟩
  | some c =>
    obtain ⟨c1, c2, c3, c4⟩ := parseL_some hps
    have HPS := Lib.hid hps
    have HC1 := Lib.hid c1
    have HC2 := Lib.hid c2
    have HC4 : Hid (c.length ≤ 1000) := Lib.hid (by omega)
    clear hlt hl8 hea hla hsa hga hoa hta hps hsl hslE c1 c2 c3 c4
    go_enter Tryz.func3, Tryz.ntmps3
    go_wp2_with (first
      | (go_at_call 4; (with_reducible refine (HC.out _).mono ?_); rintro x wn ⟨rfl, rfl⟩)
      | (go_at_call 6; (with_reducible refine' (h_addrs8 (w := w) (B := []) a a _ HA8.out _ _).mono _); rotate_left; assumption; (repeat (first | exact List.mem_cons_self | apply List.mem_cons_of_mem)); rintro x wn ⟨p, k, rfl, H⟩)
      | (go_at_call 6; (with_reducible refine' (h_addrs8 (w := w) (B := []) l0 lt _ HLT.out _ _).mono _); rotate_left; assumption; (repeat (first | exact List.mem_cons_self | apply List.mem_cons_of_mem)); rintro x wn ⟨p, k, rfl, H⟩)
      | (go_at_call 5; (with_reducible refine' (h_rof (w := w) (B := []) lt a _ HL8.out HEA.out _ _).mono _); rotate_left; assumption; (repeat (first | exact List.mem_cons_self | apply List.mem_cons_of_mem)); rintro x wn ⟨p, k, rfl, H⟩)
      | (go_at_call 8; (with_reducible refine' (h_rprint (w := w) (B := []) a ta _ HTA.out HA1.out _ _).mono _); rotate_left; assumption; (repeat (first | exact List.mem_cons_self | apply List.mem_cons_of_mem)); rintro x wn ⟨rfl, H⟩)
      | (go_at_call 9; (with_reducible refine' (h_print (w := w) (B := []) a ta _ HTA.out HA1.out HNE.out _ _).mono _); rotate_left; assumption; (repeat (first | exact List.mem_cons_self | apply List.mem_cons_of_mem)); rintro x wn ⟨rfl, H⟩)
      | (go_at_call 7; (with_reducible refine' (h_parse (w := w) (B := []) ta a HTL.out HPA.out _).mono _); rotate_left; assumption; rintro x wn ⟨p, k, rfl, H⟩)
      | (go_at_call 10; (with_reducible refine' (h_rsame (w := w) (B := []) a a true _ _ (decide_eq_true rfl) _ _ _).mono _); rotate_left; assumption; (repeat (first | exact List.mem_cons_self | apply List.mem_cons_of_mem)); rintro x wn ⟨rfl, H⟩)
      | (go_at_call 11; (with_reducible refine' (h_lives (w := w) (B := []) _).mono _); rotate_left; assumption; rintro x wn ⟨rfl, H⟩)
      | (go_at_call 7; (with_reducible refine' (h_parse (w := w) (B := []) sl c HSL.out HPS.out _).mono _); rotate_left; assumption; rintro x wn ⟨p, k, rfl, H⟩)
      | (go_at_call 8; (with_reducible refine' (h_rprint (w := w) (B := []) c sl _ HC1.out HC4.out _ _).mono _); rotate_left; assumption; (repeat (first | exact List.mem_cons_self | apply List.mem_cons_of_mem)); rintro x wn ⟨rfl, H⟩)
      | (go_at_call 5; (with_reducible refine' (h_rof (w := w) (B := []) c c _ HC4.out HC2.out _ _).mono _); rotate_left; assumption; (repeat (first | exact List.mem_cons_self | apply List.mem_cons_of_mem)); rintro x wn ⟨p, k, rfl, H⟩)
      | (go_at_call 10; (with_reducible refine' (h_rsame (w := w) (B := []) c c true _ _ (decide_eq_true rfl) _ _ _).mono _); rotate_left; assumption; (repeat (first | exact List.mem_cons_self | apply List.mem_cons_of_mem)); rintro x wn ⟨rfl, H⟩))
    go_ret
    exact ⟨rfl, H.out.1⟩
end Go.Proofs.YtalnfjnfcloonaaGreatDoor

/-
  What a row lists of the library's tables and variables gives what the contracts ask; and the wrap of a row that lists and whose world keeps its shape.
-/
namespace Go.Proofs.YtalnfjnfcloonaaGreatDoor
open Go.RowKit
set_option linter.unusedVariables false

theorem tab_of_reads {P : Program} {W : World} {name : String} {k : IntKind} {zs : List Int} {g : Nat} {t e : TypeId} {n : Nat} (hg : P.globalNamed name = some g) (hty : (P.globals[g]?).map (·.type) = some t)
    (ht : P.underlying t = some (.array n e)) (he : P.underlying e = some (.int k)) (hce : P.cellsOf e = 1) (hct : P.cellsOf t = n) (h : Lib.VarReads P W name (Lib.tabData k zs)) : Lib.TabIs P W name k zs := by
  obtain ⟨g', t', cs, fuel, p, hg', ht', hvar, hd⟩ := h
  obtain rfl := Option.some.inj (hg.symm.trans hg')
  obtain rfl := Option.some.inj (hty.symm.trans ht')
  unfold Lib.TabIs
  rw [hvar, ← Lib.cells_of_tab ht he hce hct hd]
theorem sent_of_reads {P : Program} {W : World} {name nm : String} {d : DataW Unit} {g : Nat} {t : TypeId} {ms : Array (String × TypeId)} (hg : P.globalNamed name = some g) (hty : (P.globals[g]?).map (·.type) = some t)
    (ht : P.underlying t = some (.interface ms)) (h : Lib.VarReads P W name (.iface nm d)) : ∃ te pe, W.cell? ⟨g, 0, none⟩ = some (.iface te pe) := by
  obtain ⟨g', t', cs, fuel, p, hg', ht', hvar, hd⟩ := h
  obtain rfl := Option.some.inj (hg.symm.trans hg')
  obtain rfl := Option.some.inj (hty.symm.trans ht')
  obtain ⟨f1, u, v, he, _, _⟩ := iface_of_trod ht hd
  have hc := World.var?_cell hg hvar 0
  obtain ⟨l⟩ := cs
  have he' : l = [.iface u v] := he
  subst he'
  exact ⟨u, v, by simpa using hc⟩
def dbz : List Int := Lib.deBruijn64tab.map fun (n : Nat) => (n : Int)
theorem pow_data : (Rows.laid_internal_strconv_uint64pow10 : DataW Unit) = Lib.tabData .u64 Lib.pow10Tab := by kernel_rfl
theorem db_data : (Rows.laid_math_bits_deBruijn64tab : DataW Unit) = Lib.tabData .u8 dbz := by kernel_rfl
theorem env_of {L : List (String × DataW Unit)} {W : World} (h : laidMet Tryz.prog L W) (hs : W.ShapedOpen Tryz.prog)
    (m1 : ("internal/strconv.uint64pow10", Rows.laid_internal_strconv_uint64pow10) ∈ L) (m2 : ("math/bits.deBruijn64tab", Rows.laid_math_bits_deBruijn64tab) ∈ L)
    (m3 : ("strconv.ErrSyntax", Rows.laid_strconv_ErrSyntax) ∈ L) (m4 : ("strconv.ErrRange", Rows.laid_strconv_ErrRange) ∈ L) : Env W where
  ml := cell_of_shapedOpen_int (zero := #[.int .i64 0]) (t := 3) hs (of_decide_eq_true (by kernel_rfl)) (by kernel_rfl) rfl (by kernel_rfl) (by kernel_rfl) Tryz.underlying3
  tab := tab_of_reads (g := 3) (by kernel_rfl) (by kernel_rfl) Tryz.underlying143 Tryz.underlying83 (by kernel_rfl) (by kernel_rfl) (pow_data ▸ Lib.laidMet.reads h m1)
  db := fun j hj => by
    have ht : Lib.TabIs Tryz.prog W "math/bits.deBruijn64tab" .u8 dbz := tab_of_reads (g := 7) (by kernel_rfl) (by kernel_rfl) Tryz.underlying162 Tryz.underlying5 (by kernel_rfl) (by kernel_rfl) (db_data ▸ Lib.laidMet.reads h m2)
    have hc := ht.cell (g := 7) (by kernel_rfl) j (by simpa [dbz] using hj)
    rw [hc]
    simp [dbz, hj]
  syn := sent_of_reads (g := 4) (by kernel_rfl) (by kernel_rfl) Tryz.underlying49 (Lib.laidMet.reads h m3)
  rng := sent_of_reads (g := 5) (by kernel_rfl) (by kernel_rfl) Tryz.underlying49 (Lib.laidMet.reads h m4)

/-- The wrap: the row's list, and the shape of the world, are handed to the walk. -/
theorem handed_laid {H : Type} {enc : TypeId × Value → H} {a : Assume} {C : Checked} {os : Os} {f : FuncId} {fn : Func} {s : ChangeSpec} {conds : List PathCond} {apart fresh handsOn again : Bool} {X : World → Prop}
    (hX : ∀ (w w' : World), w.heap = w'.heap → X w → X w') (own : ownKnob C.prog.godebug = none) (started : os.Started) (noInit : C.prog.inits.idxOf? f = none) (hfn : C.prog.funcs[f]? = some fn)
    (witness : ∃ (w : World) (tape : Tape) (i : Input), w.os = os ∧ (w.forCall tape i).Shaped C.prog ∧ i.vars = [] ∧ Input.okWide C.prog (w.forCall tape i) .any w.heap.size f i ∧
      ((s.pre enc C.prog fn conds apart (w.forCall tape i).memory i.args ∧ X (w.forCall tape i).memory) ∧ sizedMet enc C.prog fn (OpenSpec.ofChange s) apart (w.forCall tape i).memory i.args) ∧ a.holds C.prog (lone (Frame.enter C.prog f i.args .normal) [] (w.forCall tape i)))
    (contract : ∀ (W : World) (base : Nat) (args : Array Value) (ds gs : List (DataW H)) (before : List MemPlace),
      (∀ (j : Nat) t v, fn.params[j]? = some t → args[j]? = some v → Value.okWide C.prog W .any base t v) →
      DataW.Whole enc C.prog fn.params.toList s.vars apart W args.toList ds gs before → X W → W.ShapedOpen C.prog →
      Calls C.prog f args W fun e W' => ∃ v, e = .returned v ∧ s.post enc C.prog fn apart fresh handsOn again W args v W') :
    ReturnsInHanded a C os f .any (fun w args => (s.pre enc C.prog fn conds apart w args ∧ X w) ∧ sizedMet enc C.prog fn (OpenSpec.ofChange s) apart w args) (s.post enc C.prog fn apart fresh handsOn again) := by
  refine returnsInHanded_of_calls own started noInit witness ?_
  intro w tape i _ hsh _ hok hpre _
  obtain ⟨_, _, _, fn', hfn', _, _, _, _, hval⟩ := hok
  obtain rfl : fn' = fn := Option.some.inj (hfn'.symm.trans hfn)
  obtain ⟨⟨⟨ds, gs, before, hw, _⟩, hx⟩, _⟩ := hpre
  refine (contract (w.forCall tape i) w.heap.size i.args ds gs before hval (DataW.Whole.of_heap (w' := w.forCall tape i) (by rfl) hw) (hX _ _ (by rfl) hx) hsh).mono fun e W' ⟨v, he, hp⟩ => ?_
  subst he
  exact ChangeSpec.post_blind hp
end Go.Proofs.YtalnfjnfcloonaaGreatDoor

