/-
 The row of laws.FnText, and its card. By template (wip/gen.py).
-/
import Derived.Test.YtdlaekjofgbjcaaGreatDoorLTxtZ
import Derived.Test.YtdlaekjofgbjcaaGreatDoorPLZ
import Derived.Test.YtdlaekjofgbjcaaGreatDoorCards
import Derived.Test.YtdlaekjofgbjcaaGreatDoorTie
import Derived.ProofKit
import Derived.OpenShut
import Derived.ChangeOld
import Derived.Below
import Derived.Deep.DeepHandedRow
import Derived.Lib.LaidTab
import Derived.Stop.LaidErr
import Derived.OpenVars
import Derived.ChangeMaps5
namespace Go.Proofs.YtdlaekjofgbjcaaGreatDoor.fnText
open Go.ChangeShapes Go.WideShapes Go.ChangeAt Go.RowKit
theorem own : ownKnob Tryz.prog.godebug = none := by kernel_rfl
theorem laidOut : laidOutB Tryz.prog = true := by kernel_rfl
theorem gTab : Tryz.prog.globalNamed "internal/strconv.uint64pow10" = some 10 := by kernel_rfl
theorem gTabType : (Tryz.prog.globals[10]?).map (·.type) = some 186 := by kernel_rfl
theorem cellsT : Tryz.prog.cellsOf 186 = 20 := by kernel_rfl
theorem cellsE : Tryz.prog.cellsOf 52 = 1 := by kernel_rfl
theorem datum : (Rows.laid_internal_strconv_uint64pow10 : DataW Unit) = Lib.tabData .u64 Lib.pow10Tab := by kernel_rfl
theorem datumW : (Rows.laid_loop_example_handsignal_impl_firstWords : DataW Unit) = .agg (wordsL.map fun l => .lit (.string l)) := by kernel_rfl
theorem table {W : World} (h : laidMetH Tryz.prog Rows.fnTextRow.laid W) : Lib.TabIs Tryz.prog W "internal/strconv.uint64pow10" .u64 Lib.pow10Tab := by
 have h1 : laidMet Tryz.prog Rows.fnTextRow.laid W := h; have h2 := laidMet.tail (laidMet.tail h1); rw [datum] at h2; exact Lib.tabIs_of_head gTab gTabType Tryz.underlying186 Tryz.underlying52 cellsE cellsT h2
theorem words {W : World} (h : laidMetH Tryz.prog Rows.fnTextRow.laid W) : FWords W := by
 have h1 : laidMet Tryz.prog Rows.fnTextRow.laid W := h; have h2 := laidMet.tail (laidMet.tail (laidMet.tail (laidMet.tail (laidMet.tail (laidMet.tail (laidMet.tail (laidMet.tail (laidMet.tail (laidMet.tail (laidMet.tail (laidMet.tail (laidMet.tail h1)))))))))))); rw [datumW] at h2; exact fwords_of h2
theorem errs {W : World} (h : laidMetH Tryz.prog Rows.fnTextRow.laid W) : ∃ A, Errs W A := by
 have h1 : laidMet Tryz.prog Rows.fnTextRow.laid W := h; have h0 := laidMet.tail (laidMet.tail (laidMet.tail (laidMet.tail (laidMet.tail h1)))); obtain ⟨a0, v0, s0, b0⟩ := laid_err (text := errT 0) h0 errN0 errY0; have h1 := laidMet.tail h0; obtain ⟨a1, v1, s1, b1⟩ := laid_err (text := errT 1) h1 errN1 errY1; have h2 := laidMet.tail h1; obtain ⟨a2, v2, s2, b2⟩ := laid_err (text := errT 2) h2 errN2 errY2; have h3 := laidMet.tail h2; obtain ⟨a3, v3, s3, b3⟩ := laid_err (text := errT 3) h3 errN3 errY3; have h4 := laidMet.tail h3; obtain ⟨a4, v4, s4, b4⟩ := laid_err (text := errT 4) h4 errN4 errY4; have h5 := laidMet.tail h4; obtain ⟨a5, v5, s5, b5⟩ := laid_err (text := errT 5) h5 errN5 errY5; have h6 := laidMet.tail h5; obtain ⟨a6, v6, s6, b6⟩ := laid_err (text := errT 6) h6 errN6 errY6; have h7 := laidMet.tail h6; obtain ⟨a7, v7, s7, b7⟩ := laid_err (text := errT 7) h7 errN7 errY7
 have hs : ∀ k, k < 8 → ∃ s : ByteArray, W.cell? ((pick a0 a1 a2 a3 a4 a5 a6 a7) k) = some (.string s) ∧ s.data.toList = errT k := fun k hk => by
  match k, hk with
  | 0, _ => exact s0
  | 1, _ => exact s1
  | 2, _ => exact s2
  | 3, _ => exact s3
  | 4, _ => exact s4
  | 5, _ => exact s5
  | 6, _ => exact s6
  | 7, _ => exact s7
 refine ⟨(pick a0 a1 a2 a3 a4 a5 a6 a7), fun k hk => ?_, fun k hk => ?_, fun i j hi hj ne e => ?_⟩
 ·
  match k, hk with
  | 0, _ => exact v0
  | 1, _ => exact v1
  | 2, _ => exact v2
  | 3, _ => exact v3
  | 4, _ => exact v4
  | 5, _ => exact v5
  | 6, _ => exact v6
  | 7, _ => exact v7
 ·
  match k, hk with
  | 0, _ => exact b0
  | 1, _ => exact b1
  | 2, _ => exact b2
  | 3, _ => exact b3
  | 4, _ => exact b4
  | 5, _ => exact b5
  | 6, _ => exact b6
  | 7, _ => exact b7
 ·
  obtain ⟨s, hs1, hs2⟩ := hs i hi; obtain ⟨t, ht1, ht2⟩ := hs j hj; rw [e] at hs1
  obtain rfl : s = t := by
   have := Option.some.inj (hs1.symm.trans ht1); cases this; rfl
  exact errT_ne i hi j hj ne (hs2.symm.trans ht2)
theorem gR : Tryz.prog.globalNamed "strconv.ErrRange" = some 14 := by kernel_rfl
theorem gRt : (Tryz.prog.globals[14]?).map (·.type) = some 62 := by kernel_rfl
theorem gS : Tryz.prog.globalNamed "strconv.ErrSyntax" = some 13 := by kernel_rfl
theorem gSt : (Tryz.prog.globals[13]?).map (·.type) = some 62 := by kernel_rfl
theorem maxLen_of (w : World) (h : w.ShapedOpen Tryz.prog) : ∃ m, w.cell? ⟨9, 0, none⟩ = some (.int .i64 m) :=
 Go.Proofs.cell_of_shapedOpen_int (zero := #[.int .i64 0]) (t := 3) h (of_decide_eq_true (by kernel_rfl)) (by kernel_rfl) rfl (by kernel_rfl) (by kernel_rfl) Tryz.underlying3
theorem sizes_of (w : World) (h : w.ShapedOpen Tryz.prog) : 15 ≤ w.heap.size := by
 have hi : (((begin Tryz.prog (fun _ _ => 0) default).world.heap[15 - 1]?).bind Obj.row?).isSome = true := by kernel_rfl
 obtain ⟨⟨z, ty⟩, hz⟩ := Option.isSome_iff_exists.1 hi; obtain ⟨cs, hh, -⟩ := h.1 (15 - 1) z ty (of_decide_eq_true (by kernel_rfl)) hz; have := (Array.getElem?_eq_some_iff.1 hh).1; omega
theorem globals_of {W : World} (h : laidMetH Tryz.prog Rows.fnTextRow.laid W) (hs : W.ShapedOpen Tryz.prog) : Gl W := by
 have h1 : laidMet Tryz.prog Rows.fnTextRow.laid W := h; obtain ⟨a, ha, -⟩ := laid_err (laidMet.tail (laidMet.tail (laidMet.tail h1))) gR gRt; obtain ⟨b, hb, -⟩ := laid_err (laidMet.tail (laidMet.tail (laidMet.tail (laidMet.tail h1)))) gS gSt; exact ⟨maxLen_of W hs, ⟨_, _, hb⟩, ⟨_, _, ha⟩⟩
def valsOf : DataW Unit → Array Value
 | .agg ds => (ds.map fun d => match d with | .lit (.int k z) => Value.int k z | .lit (.string l) => Value.string ⟨l.toArray⟩ | _ => Value.bool false).toArray
 | _ => #[]
def putTab (d : DataW Unit) : Obj → Obj
 | .cells _ t frozen => .cells (valsOf d) t frozen
 | o => o
theorem trodVars_length {H : Type} {enc : TypeId × Value → H} {P : Program} {w : World} {sp : Nat → Bool} : ∀ {ns : List String} {gs : List (DataW H)} {ps : List MemPlace}, DataW.TrodVars enc P w sp ns gs ps → gs.length = ns.length
 | [], [], _, _ => rfl
 | [], _ :: _, _, h => h.elim
 | _ :: _, [], _, h => h.elim
 | _ :: _, _ :: _, _, ⟨_, _, _, _, _, _, _, _, _, _, hs, _⟩ => by simp [trodVars_length hs]
abbrev wargs : Array Value := #[.slice none 0 0]
noncomputable def lowB : Nat := (World.holding Tryz.prog default ⟨#[], #[], []⟩).heap.size
noncomputable def putErr (k : Nat) : Obj → Obj
 | .cells _ t frozen => .cells #[.iface 208 (.pointer (some ⟨lowB + k, 0, none⟩))] t frozen
 | o => o
def rangeT : List UInt8 := [118, 97, 108, 117, 101, 32, 111, 117, 116, 32, 111, 102, 32, 114, 97, 110, 103, 101]
def syntaxT : List UInt8 := [105, 110, 118, 97, 108, 105, 100, 32, 115, 121, 110, 116, 97, 120]
def errB (l : List UInt8) : Obj := .cells #[.string ⟨l.toArray⟩] 210
noncomputable def w0 (os : Os) : World := World.holding Tryz.prog os ⟨#[errB rangeT, errB syntaxT, errB (errT 0), errB (errT 1), errB (errT 2), errB (errT 3), errB (errT 4), errB (errT 5), errB (errT 6), errB (errT 7)], #[], []⟩
noncomputable def laidWorld (os : Os) : World :=
 { w0 os with heap := (((((((((((((((w0 os).heap.modify 14 (putErr 0)).modify 13 (putErr 1)).modify 0 (putErr 2)).modify 2 (putErr 3)).modify 3 (putErr 4)).modify 4 (putErr 5)).modify 5 (putErr 6)).modify 6 (putErr 7)).modify 7 (putErr 8)).modify 8 (putErr 9)).modify 10 (putTab Rows.laid_internal_strconv_uint64pow10)).modify 11 (putTab Rows.laid_math_bits_deBruijn32tab)).modify 12 (putTab Rows.laid_math_bits_deBruijn64tab)).modify 1 (putTab Rows.laid_loop_example_handsignal_impl_firstWords)) }
theorem laid_met (os : Os) : laidMet Tryz.prog Rows.fnTextRow.laid ((laidWorld os).forCall (fun _ _ => 0) ⟨#[], wargs, []⟩).memory :=
 laidMet_of_run' 8 (by kernel_rfl) (by kernel_rfl)
theorem reads (os : Os) {H : Type} (enc : TypeId × Value → H) : ∃ x, DataW.whole enc Tryz.prog ((laidWorld os).forCall (fun _ _ => 0) ⟨#[], wargs, []⟩).memory Tryz.f4.params.toList Rows.fnTextSpec.vars false wargs.toList 8 = some x :=
 Option.isSome_iff_exists.1 (by kernel_rfl)
set_option maxRecDepth 100000 in
theorem contract (H : Type) (enc : TypeId × Value → H) (W : World) (base : Nat) (args : Array Value) (ds gs : List (DataW H)) (before : List MemPlace)
  (hval0 : ∀ (j : Nat) t v, Tryz.f4.params[j]? = some t → args[j]? = some v → Value.okWide Tryz.prog W .any base t v)
  (hW : DataW.Whole enc Tryz.prog Tryz.f4.params.toList Rows.fnTextSpec.vars false W args.toList ds gs before) (hL : laidMetH Tryz.prog Rows.fnTextRow.laid W) (hSh : W.ShapedOpen Tryz.prog) :
  Calls Tryz.prog 4 args W fun e W' => ∃ v, e = .returned v ∧ Rows.fnTextSpec.post enc Tryz.prog Tryz.f4 false true false false W args v W' := by
 have hval : ∀ (j : Nat) t v, Tryz.f4.params[j]? = some t → args[j]? = some v → Value.okWide Tryz.prog W .any base t v := hval0; have hW' := hW; obtain ⟨p, q, hA0, hV, rfl, hfz, hnd⟩ := hW; have hA : DataW.TrodAll enc Tryz.prog W 0 (fun _ => true) true Tryz.f4.params.toList args.toList ds p := hA0; rw [Tryz.params4] at hA hval; obtain ⟨v0, vs0, d0, ds0, p0, q0, hargs, rfl, rfl, h0, r0⟩ := trodAll_cons hA; obtain ⟨rfl, rfl, rfl⟩ := trodAll_nil r0; obtain rfl : args = #[v0] := by cases args; simp_all
 have hV1 : DataW.TrodVars enc Tryz.prog W (fun _ => true) Rows.fnTextSpec.vars gs q := hV; have k0 := h0; have lt0 : ∀ x ∈ p0, x.block < W.heap.size := by obtain ⟨m, hm⟩ := k0; exact DataW.trod_lt m _ _ _ hm
 obtain ⟨sa, sn, sc, rfl⟩ := okWide_slice Tryz.underlying22 (hval 0 22 v0 rfl rfl); obtain ⟨V, hB⟩ := open_bytes h0; obtain ⟨A, hErr⟩ := errs hL; clear hA0 hval0; refine (fnText_walk A sa sc sn V W ⟨globals_of hL hSh, words hL, table hL, hErr, sizes_of W hSh⟩ hB).mono fun e W' ⟨he, bel⟩ => ?_; subst he
 obtain ⟨g1, g2, g3, g4, g5, g6, g7, g8, g9, rfl⟩ : ∃ g1 g2 g3 g4 g5 g6 g7 g8 g9, gs = [g1, g2, g3, g4, g5, g6, g7, g8, g9] := by
  have := trodVars_length hV1
  match gs, this with
  | [g1, g2, g3, g4, g5, g6, g7, g8, g9], _ => exact ⟨g1, g2, g3, g4, g5, g6, g7, g8, g9, rfl⟩
 exact ⟨_, rfl, _, _, _, [], _, _, hW', trodAll_mk1 (shut_bool Tryz.underlying4 _), (trodAll_cons_mk (Below.trod laidOut (by kernel_rfl) (of_decide_eq_true (by kernel_rfl)) k0 bel lt0) trodAll_mk0), Below.trodVars laidOut bel (by kernel_rfl) hV1, bel.frame _, fun h => by cases h⟩
set_option maxRecDepth 100000 in
theorem lifted (os : Os) (started : os.Started) (H : Type) (enc : TypeId × Value → H) (F : Stop.Interp) :
  ReturnsInHanded {} Tryz.checked os 4 .any ((OpenSpec.ofChange Rows.fnTextSpec).preRow enc Tryz.prog Tryz.f4 Rows.fnTextRow.domain false Rows.fnTextRow.laid) (((OpenSpec.ofChange Rows.fnTextSpec).at F).post enc Tryz.prog Tryz.f4 false true false false) := by
 obtain ⟨x, hx⟩ := reads os enc
 refine returnsInHanded_of_row (C := Tryz.checked) (s := OpenSpec.ofChange Rows.fnTextSpec) own started (by kernel_rfl) Tryz.func4
  (witness_row_at (enc := enc) (C := Tryz.checked) false (laidWorld os) wargs rfl (by kernel_rfl) (by kernel_rfl) (by kernel_rfl)
   (OpenSpec.preRow_of_cond 8 hx rfl (fun k hk => by cases hk) (by kernel_rfl) (laid_met os))) ?_
 intro W base args ds gs before hval hW _ _ _ hL hSh _; exact contract H enc W base args ds gs before hval hW hL hSh
theorem over : Rows.fnTextRow.holds Tryz.pinned (OpenSpec.ofChange Rows.fnTextSpec) :=
 OpenClaim.holds_of_cond 4 Tryz.f4 rfl rfl rfl rfl rfl rfl rfl ⟨rfl, rfl, rfl, rfl, rfl⟩ rfl rfl rfl rfl rfl (by kernel_rfl) Tryz.func4 (by kernel_rfl)
  (of_decide_eq_true (by kernel_rfl)) (by unfold Func.isWrapper; first | (rw [if_pos (by decide +kernel)]; kernel_rfl) | (rw [if_neg (by decide +kernel)]; exact ⟨rfl, rfl⟩))
  (fun os started H enc _ F => by rw [OpenClaim.pre_eq_preRow]; exact lifted os started H enc F)
theorem plain (f : FuncId) (fn : Func) (hf : Tryz.pinned.checked.prog.funcNamed "loop.example/handsignal/laws.FnText" = some f) (hfn : Tryz.pinned.checked.prog.funcs[f]? = some fn) :
  true = Tryz.pinned.checked.prog.looks [] ∧ ∀ (j : Nat) t, fn.params[j]? = some t → Tryz.pinned.checked.prog.wantsStandIn t = false := by
 obtain rfl : f = 4 := Option.some.inj ((show Tryz.prog.funcNamed "loop.example/handsignal/laws.FnText" = some 4 by kernel_rfl).symm.trans hf) |>.symm; obtain rfl : fn = Tryz.f4 := (Option.some.inj (Tryz.func4.symm.trans hfn)).symm; refine ⟨by kernel_rfl, fun j t ht => ?_⟩; rw [Tryz.params4] at ht; have hm : t ∈ [22] := by simpa using Array.mem_of_getElem? ht
 have hall : ([22].all fun u => !Tryz.prog.wantsStandIn u) = true := by kernel_rfl
 exact (show Tryz.prog.wantsStandIn t = false by simpa using List.all_eq_true.1 hall t hm)
theorem card : Rows.FnTextCardSaid :=
 Claim7.holds_tied_plain_at .later [] _ _ _ _ over (fun _ h => by cases h) (by kernel_rfl) (fun _ h => by cases h) fnText_row_tie rfl ⟨rfl, rfl⟩ (by kernel_rfl) rfl plain (by kernel_rfl)
end Go.Proofs.YtdlaekjofgbjcaaGreatDoor.fnText
namespace Go.Proofs.YtdlaekjofgbjcaaGreatDoor
theorem fnText_card : Rows.FnTextCardSaid := fnText.card
#print axioms fnText_card
end Go.Proofs.YtdlaekjofgbjcaaGreatDoor
