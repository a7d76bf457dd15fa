import Derived.Test.YtdlaekjofgbjcaaGreatDoorBaseZ
import Derived.LaidEql
import Derived.Stop.Asserts
import Derived.RowKitTokens
import Derived.Test.YtdlaekjofgbjcaaGreatDoorSCopy
import Derived.Deep.RegionHeld3
import Derived.Test.YtdlaekjofgbjcaaGreatDoorIText2
import Derived.Test.YtdlaekjofgbjcaaGreatDoorICopy
import Derived.Test.YtdlaekjofgbjcaaGreatDoorEvZ
import Derived.Test.YtdlaekjofgbjcaaGreatDoorEvI
import Derived.Test.YtdlaekjofgbjcaaGreatDoorEvI2
import Derived.Test.YtdlaekjofgbjcaaGreatDoorBegin
/-
 The program's errors: eight variables, told apart; the contracts of errors.Is over them (after the guide's worked text on errors.Is) and of impl.codeOf. Mine, by template (wip/gen.py).
-/
namespace Go.Proofs.YtdlaekjofgbjcaaGreatDoor
open Go.RowKit Go.Extern.Stop Go.Stop Go.Extern
theorem Tryz.isTypeOf (v : Value) (w : World) : (Extern.ReflectliteType.typeOf #[.iface 208 v]).run Tryz.prog w = .ok (.iface 157 (.agg #[.pointer (some ⟨15, 208, none⟩)])) w := by kernel_rfl
def cmpX : Array Value → Sem Value := Extern.ReflectliteType.method fun t => do Go.Extern.Rtype.noPackHeld "Comparable" t; pure (.bool (← typeInfo t).comparable)
theorem Tryz.isComparable (w : World) : (cmpX #[.agg #[.pointer (some ⟨15, 208, none⟩)]]).run Tryz.prog w = .ok (.bool true) w := by kernel_rfl
theorem Tryz.isMethodComparable (v : Value) (w : World) : (Go.method 340 157 v "Comparable").run Tryz.prog w = .ok (167, v) w := by kernel_rfl
theorem Tryz.isComp : (Tryz.prog.info? 208).map (·.comparable) = some true := by kernel_rfl
theorem Tryz.isSize : (Tryz.prog.info? 210).map (·.size) = some 1 := by kernel_rfl
theorem Tryz.noIsE (v : Value) (xT : TypeId) (w : World) : (Instr.typeAssert (.iface 208 v) xT 159 true).run Tryz.prog w = .ok (.tuple #[.nilIface, .bool false]) w := run_typeAssert_lacksB Tryz.underlying159 (by kernel_rfl) (by kernel_rfl) v xT w
theorem Tryz.noUnwrapE (v : Value) (xT : TypeId) (w : World) : (Instr.typeAssert (.iface 208 v) xT 162 true).run Tryz.prog w = .ok (.tuple #[.nilIface, .bool false]) w := run_typeAssert_lacksB Tryz.underlying162 (by kernel_rfl) (by kernel_rfl) v xT w
theorem Tryz.noUnwrapsE (v : Value) (xT : TypeId) (w : World) : (Instr.typeAssert (.iface 208 v) xT 164 true).run Tryz.prog w = .ok (.tuple #[.nilIface, .bool false]) w := run_typeAssert_lacksB Tryz.underlying164 (by kernel_rfl) (by kernel_rfl) v xT w
theorem is_same (a : Addr) (w : World) :
  Calls Tryz.prog 27 #[.iface 208 (.pointer (some a)), .iface 208 (.pointer (some a))] w fun e w' => e = .returned (.bool true) ∧ w' = w := by
 obtain ⟨i, hi, hcmp⟩ := Option.map_eq_some_iff.1 Tryz.isComp; obtain ⟨j, hj, hjs⟩ := Option.map_eq_some_iff.1 Tryz.isSize; have h8 := @run_callFunc_extern Tryz.prog 62 _ Extern.ReflectliteType.typeOf Tryz.func62 (by kernel_rfl) (by kernel_rfl) (by kernel_rfl) (by kernel_rfl); have h32 := @run_callFunc_extern Tryz.prog 167 _ cmpX Tryz.func167 (by kernel_rfl) (by kernel_rfl) (by kernel_rfl) (by kernel_rfl); have tT := Tryz.isTypeOf; have cT := Tryz.isComparable; have mR := Tryz.isMethodComparable; have heq := run_eql_iface_ptr_same (P := Tryz.prog) w a Tryz.underlying62 Tryz.underlying208 hi hcmp hj
 go_enter Tryz.func27, Tryz.ntmps27
 go_wp2; refine wp_loop_rounds 1 ?_; rw [rounds_succ]; go_wp2; go_ret; exact ⟨rfl, rfl⟩
theorem is_nil (b : Addr) (w : World) :
  Calls Tryz.prog 27 #[.nilIface, .iface 208 (.pointer (some b))] w fun e w' => e = .returned (.bool false) ∧ w' = w := by
 have hn := run_eql_iface_nil_left (P := Tryz.prog) w 208 (.pointer (some b)) Tryz.underlying62
 go_enter Tryz.func27, Tryz.ntmps27
 go_wp2; go_ret; exact ⟨rfl, rfl⟩
theorem is_other (a b : Addr) (ca cb : Array Value) (ta tb : TypeId) (w : World) (hne : a ≠ b) (ha : w.heap[a.block]? = some (.cells ca ta (0, 0))) (hb : w.heap[b.block]? = some (.cells cb tb (0, 0))) :
  Calls Tryz.prog 27 #[.iface 208 (.pointer (some a)), .iface 208 (.pointer (some b))] w fun e w' => e = .returned (.bool false) ∧ w' = w := by
 obtain ⟨i, hi, hcmp⟩ := Option.map_eq_some_iff.1 Tryz.isComp; obtain ⟨j, hj, hjs⟩ := Option.map_eq_some_iff.1 Tryz.isSize; have h8 := @run_callFunc_extern Tryz.prog 62 _ Extern.ReflectliteType.typeOf Tryz.func62 (by kernel_rfl) (by kernel_rfl) (by kernel_rfl) (by kernel_rfl); have h32 := @run_callFunc_extern Tryz.prog 167 _ cmpX Tryz.func167 (by kernel_rfl) (by kernel_rfl) (by kernel_rfl) (by kernel_rfl); have tT := Tryz.isTypeOf; have cT := Tryz.isComparable; have mR := Tryz.isMethodComparable; have nE := Tryz.noIsE; have uE := Tryz.noUnwrapE; have vE := Tryz.noUnwrapsE; have heq := run_eql_iface_ptr_other (P := Tryz.prog) w Tryz.underlying62 Tryz.underlying208 hi hcmp hj (by rw [hjs]; decide) hne ha hb
 go_enter Tryz.func27, Tryz.ntmps27
 go_wp2; refine wp_loop_rounds 1 ?_; rw [rounds_succ]; go_wp2; go_ret; exact ⟨rfl, rfl⟩
/-! ### The eight errors -/
def errG : Nat → Nat
 | 0 => 0
 | 1 => 2
 | 2 => 3
 | 3 => 4
 | 4 => 5
 | 5 => 6
 | 6 => 7
 | _ => 8
def errV (A : Nat → Addr) (k : Nat) : Value := .iface 208 (.pointer (some (A k)))
def errO (A : Nat → Addr) : Option Nat → Value
 | none => .nilIface
 | some k => errV A k
structure Errs (w : World) (A : Nat → Addr) : Prop where
 v : ∀ k, k < 8 → w.cell? ⟨errG k, 0, none⟩ = some (errV A k)
 b : ∀ k, k < 8 → ∃ c t, w.heap[(A k).block]? = some (.cells c t (0, 0))
 ne : ∀ i j, i < 8 → j < 8 → i ≠ j → A i ≠ A j
theorem Errs.below {w w' : World} {A : Nat → Addr} (h : Errs w A) (hb : Below w.heap.size w w') : Errs w' A :=
 ⟨fun k hk => (hb.cell (p := ⟨errG k, 0, none⟩) (World.block_lt_of_cell? _ _ (h.v k hk))).trans (h.v k hk), fun k hk => by
  obtain ⟨c, t, e⟩ := h.b k hk
  exact ⟨c, t, (hb.block _ (Array.getElem?_eq_some_iff.1 e).1).trans e⟩, h.ne⟩
theorem is_any (A : Nat → Addr) (o : Option Nat) (j : Nat) (r : Bool) (w : World) (h : Errs w A) (hj : j < 8) (ho : ∀ k, o = some k → k < 8) (hr : r = decide (o = some j)) :
  Calls Tryz.prog 27 #[errO A o, errV A j] w fun e w' => e = .returned (.bool r) ∧ w' = w := by
 subst hr; cases o with
 | none => exact is_nil _ _
 | some k =>
  by_cases e : k = j
  ·
   subst e; rw [decide_eq_true rfl]; exact is_same _ _
  ·
   rw [decide_eq_false (fun q => e (Option.some.inj q))]; obtain ⟨c1, t1, e1⟩ := h.b k (ho k rfl); obtain ⟨c2, t2, e2⟩ := h.b j hj; exact is_other _ _ c1 c2 t1 t2 w (h.ne k j (ho k rfl) hj e) e1 e2
def codeN : Option Nat → Int
 | none => 0
 | some 0 => 1
 | some 1 => 2
 | some 2 => 2
 | some 3 => 3
 | some 4 => 3
 | some 5 => 4
 | some 6 => 4
 | some _ => 5
set_option maxHeartbeats 4000000 in
theorem codeOf_at (A : Nat → Addr) (o : Option Nat) (w : World) (h : Errs w A) (ho : o = none ∨ o = some 0 ∨ o = some 1 ∨ o = some 2 ∨ o = some 3 ∨ o = some 4 ∨ o = some 5 ∨ o = some 6 ∨ o = some 7) :
  Calls Tryz.prog 29 #[errO A o] w fun e w' => e = .returned (.int .i64 (codeN o)) ∧ w' = w := by
 have hk : ∀ k, o = some k → k < 8 := fun k e => by subst e; simp at ho; omega
 have v0 : w.cell? ⟨0, 0, none⟩ = some (errV A 0) := h.v 0 (by omega); have v1 : w.cell? ⟨2, 0, none⟩ = some (errV A 1) := h.v 1 (by omega); have v2 : w.cell? ⟨3, 0, none⟩ = some (errV A 2) := h.v 2 (by omega); have v3 : w.cell? ⟨4, 0, none⟩ = some (errV A 3) := h.v 3 (by omega); have v4 : w.cell? ⟨5, 0, none⟩ = some (errV A 4) := h.v 4 (by omega); have v5 : w.cell? ⟨6, 0, none⟩ = some (errV A 5) := h.v 5 (by omega); have v6 : w.cell? ⟨7, 0, none⟩ = some (errV A 6) := h.v 6 (by omega); have v7 : w.cell? ⟨8, 0, none⟩ = some (errV A 7) := h.v 7 (by omega); have HE : Hid (Errs w A) := h; have HK : Hid (∀ k, o = some k → k < 8) := hk; clear h hk; have call : ∀ j r, j < 8 → r = decide (o = some j) → Calls Tryz.prog 27 #[errO A o, errV A j] w fun e w' => e = .returned (.bool r) ∧ w' = w := fun j r hj hr => is_any A o j r w HE.out hj HK.out hr; rcases ho with rfl | rfl | rfl | rfl | rfl | rfl | rfl | rfl | rfl
 ·
  go_enter Tryz.func29, Tryz.ntmps29
  go_wp2_with fail
  refine (call 0 false (by omega) (by decide)).mono ?_; rintro e w' ⟨rfl, rfl⟩
  go_wp2_with fail
  refine (call 1 false (by omega) (by decide)).mono ?_; rintro e w' ⟨rfl, rfl⟩
  go_wp2_with fail
  refine (call 2 false (by omega) (by decide)).mono ?_; rintro e w' ⟨rfl, rfl⟩
  go_wp2_with fail
  refine (call 3 false (by omega) (by decide)).mono ?_; rintro e w' ⟨rfl, rfl⟩
  go_wp2_with fail
  refine (call 4 false (by omega) (by decide)).mono ?_; rintro e w' ⟨rfl, rfl⟩
  go_wp2_with fail
  refine (call 5 false (by omega) (by decide)).mono ?_; rintro e w' ⟨rfl, rfl⟩
  go_wp2_with fail
  refine (call 6 false (by omega) (by decide)).mono ?_; rintro e w' ⟨rfl, rfl⟩
  go_wp2_with fail
  refine (call 7 false (by omega) (by decide)).mono ?_; rintro e w' ⟨rfl, rfl⟩; go_wp2; go_ret; exact ⟨rfl, rfl⟩
 ·
  go_enter Tryz.func29, Tryz.ntmps29
  go_wp2_with fail
  refine (call 0 true (by omega) (by decide)).mono ?_; rintro e w' ⟨rfl, rfl⟩; go_wp2; go_ret; exact ⟨rfl, rfl⟩
 ·
  go_enter Tryz.func29, Tryz.ntmps29
  go_wp2_with fail
  refine (call 0 false (by omega) (by decide)).mono ?_; rintro e w' ⟨rfl, rfl⟩
  go_wp2_with fail
  refine (call 1 true (by omega) (by decide)).mono ?_; rintro e w' ⟨rfl, rfl⟩; go_wp2; go_ret; exact ⟨rfl, rfl⟩
 ·
  go_enter Tryz.func29, Tryz.ntmps29
  go_wp2_with fail
  refine (call 0 false (by omega) (by decide)).mono ?_; rintro e w' ⟨rfl, rfl⟩
  go_wp2_with fail
  refine (call 1 false (by omega) (by decide)).mono ?_; rintro e w' ⟨rfl, rfl⟩
  go_wp2_with fail
  refine (call 2 true (by omega) (by decide)).mono ?_; rintro e w' ⟨rfl, rfl⟩; go_wp2; go_ret; exact ⟨rfl, rfl⟩
 ·
  go_enter Tryz.func29, Tryz.ntmps29
  go_wp2_with fail
  refine (call 0 false (by omega) (by decide)).mono ?_; rintro e w' ⟨rfl, rfl⟩
  go_wp2_with fail
  refine (call 1 false (by omega) (by decide)).mono ?_; rintro e w' ⟨rfl, rfl⟩
  go_wp2_with fail
  refine (call 2 false (by omega) (by decide)).mono ?_; rintro e w' ⟨rfl, rfl⟩
  go_wp2_with fail
  refine (call 3 true (by omega) (by decide)).mono ?_; rintro e w' ⟨rfl, rfl⟩; go_wp2; go_ret; exact ⟨rfl, rfl⟩
 ·
  go_enter Tryz.func29, Tryz.ntmps29
  go_wp2_with fail
  refine (call 0 false (by omega) (by decide)).mono ?_; rintro e w' ⟨rfl, rfl⟩
  go_wp2_with fail
  refine (call 1 false (by omega) (by decide)).mono ?_; rintro e w' ⟨rfl, rfl⟩
  go_wp2_with fail
  refine (call 2 false (by omega) (by decide)).mono ?_; rintro e w' ⟨rfl, rfl⟩
  go_wp2_with fail
  refine (call 3 false (by omega) (by decide)).mono ?_; rintro e w' ⟨rfl, rfl⟩
  go_wp2_with fail
  refine (call 4 true (by omega) (by decide)).mono ?_; rintro e w' ⟨rfl, rfl⟩; go_wp2; go_ret; exact ⟨rfl, rfl⟩
 ·
  go_enter Tryz.func29, Tryz.ntmps29
  go_wp2_with fail
  refine (call 0 false (by omega) (by decide)).mono ?_; rintro e w' ⟨rfl, rfl⟩
  go_wp2_with fail
  refine (call 1 false (by omega) (by decide)).mono ?_; rintro e w' ⟨rfl, rfl⟩
  go_wp2_with fail
  refine (call 2 false (by omega) (by decide)).mono ?_; rintro e w' ⟨rfl, rfl⟩
  go_wp2_with fail
  refine (call 3 false (by omega) (by decide)).mono ?_; rintro e w' ⟨rfl, rfl⟩
  go_wp2_with fail
  refine (call 4 false (by omega) (by decide)).mono ?_; rintro e w' ⟨rfl, rfl⟩
  go_wp2_with fail
  refine (call 5 true (by omega) (by decide)).mono ?_; rintro e w' ⟨rfl, rfl⟩; go_wp2; go_ret; exact ⟨rfl, rfl⟩
 ·
  go_enter Tryz.func29, Tryz.ntmps29
  go_wp2_with fail
  refine (call 0 false (by omega) (by decide)).mono ?_; rintro e w' ⟨rfl, rfl⟩
  go_wp2_with fail
  refine (call 1 false (by omega) (by decide)).mono ?_; rintro e w' ⟨rfl, rfl⟩
  go_wp2_with fail
  refine (call 2 false (by omega) (by decide)).mono ?_; rintro e w' ⟨rfl, rfl⟩
  go_wp2_with fail
  refine (call 3 false (by omega) (by decide)).mono ?_; rintro e w' ⟨rfl, rfl⟩
  go_wp2_with fail
  refine (call 4 false (by omega) (by decide)).mono ?_; rintro e w' ⟨rfl, rfl⟩
  go_wp2_with fail
  refine (call 5 false (by omega) (by decide)).mono ?_; rintro e w' ⟨rfl, rfl⟩
  go_wp2_with fail
  refine (call 6 true (by omega) (by decide)).mono ?_; rintro e w' ⟨rfl, rfl⟩; go_wp2; go_ret; exact ⟨rfl, rfl⟩
 ·
  go_enter Tryz.func29, Tryz.ntmps29
  go_wp2_with fail
  refine (call 0 false (by omega) (by decide)).mono ?_; rintro e w' ⟨rfl, rfl⟩
  go_wp2_with fail
  refine (call 1 false (by omega) (by decide)).mono ?_; rintro e w' ⟨rfl, rfl⟩
  go_wp2_with fail
  refine (call 2 false (by omega) (by decide)).mono ?_; rintro e w' ⟨rfl, rfl⟩
  go_wp2_with fail
  refine (call 3 false (by omega) (by decide)).mono ?_; rintro e w' ⟨rfl, rfl⟩
  go_wp2_with fail
  refine (call 4 false (by omega) (by decide)).mono ?_; rintro e w' ⟨rfl, rfl⟩
  go_wp2_with fail
  refine (call 5 false (by omega) (by decide)).mono ?_; rintro e w' ⟨rfl, rfl⟩
  go_wp2_with fail
  refine (call 6 false (by omega) (by decide)).mono ?_; rintro e w' ⟨rfl, rfl⟩
  go_wp2_with fail
  refine (call 7 true (by omega) (by decide)).mono ?_; rintro e w' ⟨rfl, rfl⟩; go_wp2; go_ret; exact ⟨rfl, rfl⟩
end Go.Proofs.YtdlaekjofgbjcaaGreatDoor
/-
 The contracts of impl.cancel, giveBack, lock. Mine, by template (wip/gen.py).
-/
namespace Go.Proofs.YtdlaekjofgbjcaaGreatDoor
open Go.RowKit
def ErrOk (o : Option Nat) : Prop := o = none ∨ o = some 0 ∨ o = some 1 ∨ o = some 2 ∨ o = some 3 ∨ o = some 4 ∨ o = some 5 ∨ o = some 6 ∨ o = some 7
def RetX (A : Nat → Addr) (e : Ending) (w w' : World) (lo : Nat) (v : Value) (B : Bk) (K : Blk) (r : Int × Bk) : Prop :=
 ∃ o, e = .returned (errO A o) ∧ ErrOk o ∧ codeN o = r.1 ∧ OwnBook w' lo v r.2 K ∧ Fr (bookBlocks B K) w w'
theorem ord_facts {w : World} {lo : Nat} {v : Value} {B : Bk} {K : Blk} (h : OwnBook w lo v B K) {i : Nat} (hi : i < B.orders.length) :
  OrdAt w K.G (i * 4) (bX B i) (K.sa i) (K.sc i) ∧ (∀ j, w.frozen? ⟨K.G, j, none⟩ = false) ∧ bookBlocks B K K.G := by
 obtain ⟨ao, co, al, cl, ac, cc, _, h1, _, _⟩ := h.shape; exact ⟨h1.ordAt hi, fun j => (h1.row (by omega)).frozen j, Or.inl (Or.inl ⟨by omega, rfl⟩)⟩
theorem strEq_t {a b : ByteArray} (h : a = b) : (a.toList == b.toList) = true := by subst h; exact beq_self_eq_true _
theorem strEq_f {a b : ByteArray} (h : ¬ a = b) : (a.toList == b.toList) = false := by
 rw [beq_eq_false_iff_ne]; intro e; rw [ByteArray.toList_eq, ByteArray.toList_eq] at e; exact h (ByteArray.ext (Array.toList_inj.1 e))
theorem wf_nat (m : Nat) (h : m < 1048576) : (Lit.int .i64 (m : Int)).wf = true := WalkArith.wf_i64 (by omega)
theorem fr_set {S : Nat → Prop} {w : World} (b o : Nat) (hb : S b) (u : Value) : Fr S w (w.setCell ⟨b, o, none⟩ u) := (Fr.refl S w).setCell hb u
theorem cancel_any (A : Nat → Addr) (v : Value) (B : Bk) (K : Blk) (lo i : Nat) (w : World) (hE : Errs w A) (h : OwnBook w lo v B K) (hi : i < B.orders.length) :
  Calls Tryz.prog 91 #[.pointer (some ⟨K.G, i * 4, none⟩)] w fun e w' => RetX A e w w' lo v B K (doCancel B i) := by
 obtain ⟨⟨x0, x1, x2, x3, x4⟩, hf, hG⟩ := ord_facts h hi; have f3 := hf (i * 4 + 3); have v2 : w.cell? ⟨3, 0, none⟩ = some (errV A 2) := hE.v 2 (by omega); have HH : Hid (OwnBook w lo v B K ∧ bookBlocks B K K.G) := ⟨h, hG⟩; clear h hE x4 hf hG x0 x1 x2
 by_cases s1 : (bX B i).state = 1
 ·
  have t1 : ((bX B i).state != 1) = false := by simp [s1]
  have HS : Hid ((bX B i).state = 1) := s1; clear s1
  go_enter Tryz.func91, Tryz.ntmps91
  go_wp2; go_ret; refine ⟨none, rfl, Or.inl rfl, ?_⟩; unfold doCancel; rw [if_neg (fun q => q.1 HS.out)]; exact ⟨rfl, HH.out.1.setState hi 5, fr_set _ _ HH.out.2 _⟩
 ·
  have t1 : ((bX B i).state != 1) = true := by simpa using s1
  by_cases s2 : (bX B i).state = 2
  ·
   have t2 : ((bX B i).state != 2) = false := by simp [s2]
   have HS : Hid ((bX B i).state = 2) := s2; clear s1 s2
   go_enter Tryz.func91, Tryz.ntmps91
   go_wp2; go_ret; refine ⟨none, rfl, Or.inl rfl, ?_⟩; unfold doCancel; rw [if_neg (fun q => q.2 HS.out)]; exact ⟨rfl, HH.out.1.setState hi 5, fr_set _ _ HH.out.2 _⟩
  ·
   have t2 : ((bX B i).state != 2) = true := by simpa using s2
   have HS : Hid ((bX B i).state ≠ 1 ∧ (bX B i).state ≠ 2) := ⟨s1, s2⟩; clear s1 s2
   go_enter Tryz.func91, Tryz.ntmps91
   go_wp2; go_ret; refine ⟨some 2, rfl, by unfold ErrOk; simp, ?_⟩; unfold doCancel; rw [if_pos HS.out]; exact ⟨rfl, HH.out.1, Fr.refl _ _⟩
theorem giveBack_any (A : Nat → Addr) (v : Value) (B : Bk) (K : Blk) (lo i : Nat) (s : ByteArray) (w : World) (hE : Errs w A) (h : OwnBook w lo v B K) (hi : i < B.orders.length) :
  Calls Tryz.prog 90 #[.pointer (some ⟨K.G, i * 4, none⟩), .string s] w fun e w' => RetX A e w w' lo v B K (doBack B i s) := by
 obtain ⟨⟨x0, x1, x2, x3, x4⟩, hf, hG⟩ := ord_facts h hi; have f3 := hf (i * 4 + 3); have v2 : w.cell? ⟨3, 0, none⟩ = some (errV A 2) := hE.v 2 (by omega); have v4 : w.cell? ⟨5, 0, none⟩ = some (errV A 4) := hE.v 4 (by omega); have HH : Hid (OwnBook w lo v B K ∧ bookBlocks B K K.G) := ⟨h, hG⟩; clear h hE x4 hf hG x1 x2
 by_cases s1 : (bX B i).state = 3
 ·
  have t1 : ((bX B i).state != 3) = false := by simp [s1]
  by_cases s2 : (bX B i).holder = s
  ·
   have t2 := strEq_t s2; have HS : Hid ((bX B i).state = 3 ∧ (bX B i).holder = s) := ⟨s1, s2⟩; clear s1 s2
   go_enter Tryz.func90, Tryz.ntmps90
   go_wp2; go_ret; refine ⟨none, rfl, Or.inl rfl, ?_⟩; unfold doBack; rw [if_neg (fun q => q HS.out.1), if_neg (fun q => q HS.out.2)]; exact ⟨rfl, HH.out.1.setState hi 4, fr_set _ _ HH.out.2 _⟩
  ·
   have t2 := strEq_f s2; have HS : Hid ((bX B i).state = 3 ∧ (bX B i).holder ≠ s) := ⟨s1, s2⟩; clear s1 s2
   go_enter Tryz.func90, Tryz.ntmps90
   go_wp2; go_ret; refine ⟨some 4, rfl, by unfold ErrOk; simp, ?_⟩; unfold doBack; rw [if_neg (fun q => q HS.out.1), if_pos HS.out.2]; exact ⟨rfl, HH.out.1, Fr.refl _ _⟩
 ·
  have t1 : ((bX B i).state != 3) = true := by simpa using s1
  have HS : Hid ((bX B i).state ≠ 3) := s1; clear s1
  go_enter Tryz.func90, Tryz.ntmps90
  go_wp2; go_ret; refine ⟨some 2, rfl, by unfold ErrOk; simp, ?_⟩; unfold doBack; rw [if_pos HS.out]; exact ⟨rfl, HH.out.1, Fr.refl _ _⟩
def BoxAt (w : World) (p : Nat) (v : Value) : Prop := ∃ a b c d, v = .agg #[a, b, c, d] ∧ w.heap[p]? = some (.cells #[a, b, c, d] 37 (0, 0))
theorem lock_any (A : Nat → Addr) (v : Value) (B : Bk) (K : Blk) (lo p : Nat) (s : Int) (w : World) (hE : Errs w A) (h : OwnBook w lo v B K) (hp : BoxAt w p v) (hR : Right B) (hs : In s 0 (B.n - 1)) (hsm : B.orders.length ≤ 1048576 ∧ ∀ i, i < B.orders.length → (bX B i).secs.length ≤ 1048576 ∧ (bX B i).holder.size ≤ 1048576) :
  Calls Tryz.prog 92 #[.pointer (some ⟨p, 0, none⟩), .int .i64 s] w fun e w' => RetX A e w w' lo v B K (doLock B s) := by
 have hb0 := h.bookAt; obtain ⟨ao, co, al, cl, ac, cc, rfl, h1, h2, h3⟩ := h.shape; obtain ⟨a, b, c, d, e, hbx⟩ := hp; simp only [Value.agg.injEq, Array.mk.injEq, List.cons.injEq, and_true] at e; obtain ⟨rfl, rfl, rfl, rfl⟩ := e; obtain ⟨o0, o1, o2, o3⟩ := box_cells hbx; have hlen : (B.locked.length : Int) = B.n := hR.1.2.1; obtain ⟨m, rfl⟩ : ∃ m : Nat, s = (m : Int) := ⟨s.toNat, by have := hs.1; omega⟩; have hm : m < B.locked.length := by have := hs.2; omega
 have hn60 : B.n ≤ 60 := hR.1.1.2; have hwf : (Lit.int .i64 (m : Int)).wf = true := wf_nat m (by omega); have HH : Hid (OwnBook w lo (.agg #[.int .i64 B.n, .slice ao B.orders.length co, .slice al B.locked.length cl, .slice ac B.occ.length cc]) B K ∧ Right B ∧ w.heap[p]? = some (.cells #[.int .i64 B.n, .slice ao B.orders.length co, .slice al B.locked.length cl, .slice ac B.occ.length cc] 37 (0, 0)) ∧ Errs w A) := ⟨h, hR, hbx, hE⟩; have hal : al = some ⟨K.L, 0, none⟩ := h2.head (by omega); clear hbx h h1 h2 h3 hE hR; subst hal
 go_enter Tryz.func92, Tryz.ntmps92
 go_wp2_with fail
 refine (implWho_any _ B (m : Int) _ hsm.1 hsm.2 hwf hb0).mono ?_; rintro e w1 ⟨⟨r, rfl, hr⟩, hb⟩; have H1 := HH.out.1.below hb; have bx1 := (hb.block _ (Array.getElem?_eq_some_iff.1 HH.out.2.2.1).1).trans HH.out.2.2.1; obtain ⟨_, _, _, _, _, _, e, _, h2, _⟩ := H1.shape; simp only [Value.agg.injEq, Array.mk.injEq, List.cons.injEq, Value.slice.injEq, and_true, true_and] at e; obtain ⟨-, ⟨rfl, rfl⟩, -⟩ := e; have l1 : w1.cell? ⟨K.L, m, none⟩ = some (.bool (B.locked.getD m false)) := (h2.row (by omega)).cell hm; have l2 : w1.frozen? ⟨K.L, m, none⟩ = false := (h2.row (by omega)).frozen m; have E1 := HH.out.2.2.2.below hb; have v3 : w1.cell? ⟨4, 0, none⟩ = some (errV A 3) := E1.v 3 (by omega); obtain ⟨o0, o1, o2, o3⟩ := box_cells bx1; have HF : Hid (OwnBook w1 lo (.agg #[.int .i64 B.n, .slice ao B.orders.length co, .slice (some ⟨K.L, 0, none⟩) B.locked.length cl, .slice ac B.occ.length cc]) B K ∧ Fr (bookBlocks B K) w w1) := ⟨H1, Fr.of_below hb⟩; have HW : Hid (WhoIs B (m : Int) r) := hr; have hm' : (m : Int) < (B.locked.length : Int) := by omega
 clear hb H1 bx1 h2 E1 hr hwf hb0 hsm
 by_cases hr0 : 0 ≤ r
 ·
  have t : decide (0 ≤ r) = true := by simpa using hr0
  clear hr0; have hr0 : 0 ≤ r := by simpa using t
  have HT : Hid (∃ j, j < B.orders.length ∧ Has (bX B j) (m : Int)) := by
   rcases HW.out with ⟨_, e⟩ | ⟨_, i, q1, q2, q3⟩ | ⟨_, e, _⟩
   · omega
   · exact ⟨i, q1, q3⟩
   · omega
  clear hr0; go_wp2; go_ret; refine ⟨some 3, rfl, by unfold ErrOk; simp, ?_⟩; unfold doLock; rw [if_pos HT.out]; exact ⟨rfl, HF.out.1, HF.out.2⟩
 ·
  have t : decide (0 ≤ r) = false := by simpa using hr0
  have HT : Hid (¬ ∃ j, j < B.orders.length ∧ Has (bX B j) (m : Int)) := by
   rcases HW.out with ⟨q, _⟩ | ⟨_, i, q1, q2, q3⟩ | ⟨_, _, q⟩
   · exact absurd HH.out.2.1 q
   · omega
   · exact fun ⟨j, j1, j2⟩ => q j j1 j2
  clear hr0; go_wp2; go_ret; refine ⟨none, rfl, Or.inl rfl, ?_⟩; unfold doLock; rw [if_neg HT.out, Int.toNat_natCast]; exact ⟨rfl, HF.out.1.setLock hm true, HF.out.2.setCell (p := ⟨K.L, m, none⟩) (Or.inr (Or.inl ⟨by omega, rfl⟩)) _⟩
end Go.Proofs.YtdlaekjofgbjcaaGreatDoor
/-
 The contract of impl.give. Mine, by program (wip/ido2.py), by template (wip/gen.py).
-/
namespace Go.Proofs.YtdlaekjofgbjcaaGreatDoor
open Go.RowKit
theorem taken_iff {B : Bk} {F : Int → Option Int} (h : Inv (bX B) B.orders.length 0 F) (i : Nat) : Taken B i ↔ ∃ q, q < (bX B i).secs.length ∧ (F (sV (bX B i) q)).isSome = true := by
 constructor
 ·
  rintro ⟨j, hj, ho, a, b, ha, hb, e⟩; refine ⟨b, hb, ?_⟩; rw [h.2 (sV (bX B i) b) j ⟨ho, Or.inl ⟨hj, a, ha, e⟩⟩]; rfl
 ·
  rintro ⟨q, hq, hs⟩; obtain ⟨u, hu⟩ := Option.isSome_iff_exists.1 hs; obtain ⟨j, _, ho, hj | ⟨_, a, ha, _⟩⟩ := h.1 _ _ hu
  ·
   obtain ⟨hj, a, ha, e⟩ := hj; exact ⟨j, hj, ho, a, q, ha, hq, e⟩
  · exact absurd ha (by omega)
theorem OwnBook.drew {w : World} {lo : Nat} {v : Value} {B : Bk} {K : Blk} (h : OwnBook w lo v B K) : OwnBook w.drew lo v B K := h.below (Below.refl _ _).drew
theorem Fr.drew {S : Nat → Prop} {a b : World} (h : Fr S a b) : Fr S a b.drew := h.trans (Fr.of_below (Below.refl _ _).drew)
theorem giveC_state {B : Bk} {i : Nat} (h : (bX B i).state ≠ 1) : giveC B i = 2 := by unfold giveC; rw [if_pos h]
theorem giveC_taken {B : Bk} {i : Nat} (h : (bX B i).state = 1) (t : Taken B i) : giveC B i = 3 := by unfold giveC; rw [if_neg (fun q => q h), if_pos t]
theorem giveC_locked {B : Bk} {i : Nat} (h : (bX B i).state = 1) (t : ¬ Taken B i) (l : Marked B.locked (bX B i)) : giveC B i = 4 := by unfold giveC; rw [if_neg (fun q => q h), if_neg t, if_pos l]
theorem giveC_occ {B : Bk} {i : Nat} (h : (bX B i).state = 1) (t : ¬ Taken B i) (l : ¬ Marked B.locked (bX B i)) (k : (bX B i).kind = 2) (c : Marked B.occ (bX B i)) : giveC B i = 5 := by unfold giveC; rw [if_neg (fun q => q h), if_neg t, if_neg l, if_pos ⟨k, c⟩]
theorem giveC_ok {B : Bk} {i : Nat} (h : (bX B i).state = 1) (t : ¬ Taken B i) (l : ¬ Marked B.locked (bX B i)) (k : ¬ ((bX B i).kind = 2 ∧ Marked B.occ (bX B i))) : giveC B i = 0 := by unfold giveC; rw [if_neg (fun q => q h), if_neg t, if_neg l, if_neg k]
theorem doGive_no {B : Bk} {i : Nat} {c : Int} (h : giveC B i = c) (hc : c ≠ 0) : doGive B i = (c, B) := by unfold doGive; rw [if_neg (by rw [h]; exact hc), h]
theorem doGive_yes {B : Bk} {i : Nat} (h : giveC B i = 0) : doGive B i = (0, setState B i 2) := by unfold doGive; rw [if_pos h]
theorem anyMarked_dec (ac sa : Option Addr) (cc sc : Nat) (bs : List Bool) (x : Ord) (r : Bool) (w : World) (hr : r = true ↔ Marked bs x) (hn : x.secs.length ≤ 4294967296) (hV : ∀ k, k < x.secs.length → 0 ≤ sV x k ∧ sV x k < bs.length) (G1 : Cells w ac bs.length (bV bs)) (G2 : Cells w sa x.secs.length (iV x.secs)) :
  Calls Tryz.prog 99 #[.slice ac bs.length cc, .slice sa x.secs.length sc] w fun e w' => e = .returned (.bool r) ∧ w' = w := by
 refine (anyMarked_any ac sa cc sc bs x w hn hV G1 G2).mono ?_; rintro e w' ⟨h, rfl⟩; rcases h.cases with ⟨rfl, hp⟩ | ⟨rfl, hp⟩
 · rw [hr.2 hp]; exact ⟨rfl, rfl⟩
 ·
  cases r with
  | true => exact absurd (hr.1 rfl) hp
  | false => exact ⟨rfl, rfl⟩
set_option maxHeartbeats 8000000 in
theorem give_any (A : Nat → Addr) (v : Value) (B : Bk) (K : Blk) (lo p i : Nat) (w : World) (hE : Errs w A) (h : OwnBook w lo v B K) (hp : BoxAt w p v) (hR : Right B) (hi : i < B.orders.length) :
  Calls Tryz.prog 88 #[.pointer (some ⟨p, 0, none⟩), .int .i64 i] w fun e w' => RetX A e w w' lo v B K (doGive B i) := by
 obtain ⟨ao, co, al, cl, ac, cc, rfl, h1, h2, h3⟩ := h.shape; obtain ⟨a, b, c, d, e, hbx⟩ := hp; simp only [Value.agg.injEq, Array.mk.injEq, List.cons.injEq, and_true] at e; obtain ⟨rfl, rfl, rfl, rfl⟩ := e; obtain ⟨⟨x0, x1, x2, x3, x4⟩, hf, hG⟩ := ord_facts h hi; obtain rfl : ao = some ⟨K.G, 0, none⟩ := h1.head (by omega); obtain ⟨o0, o1, o2, o3⟩ := box_cells hbx; have f3 := hf (i * 4 + 3); have ho : B.orders.length ≤ 1048576 := by have := hR.1.2.2.2; omega
 have hi0 : (0 : Int) ≤ (i : Int) := by omega
 have hi1 : (i : Int) < (B.orders.length : Int) := by omega
 have hsec : (bX B i).secs.length ≤ 20 := (hR.2.1 i hi).2.2.1.2.2
 have hV : ∀ k, k < (bX B i).secs.length → 0 ≤ sV (bX B i) k ∧ sV (bX B i) k < B.n ∧ sV (bX B i) k < 60 := fun k hk => by
  have h4 := (hR.2.1 i hi).2.2.1.1 k hk; have h5 := hR.1.1.2; exact ⟨h4.1, by omega, by omega⟩
 have HH : Hid (OwnBook w lo (.agg #[.int .i64 B.n, .slice (some ⟨K.G, 0, none⟩) B.orders.length co, .slice al B.locked.length cl, .slice ac B.occ.length cc]) B K ∧ Right B ∧ w.heap[p]? = some (.cells #[.int .i64 B.n, .slice (some ⟨K.G, 0, none⟩) B.orders.length co, .slice al B.locked.length cl, .slice ac B.occ.length cc] 37 (0, 0)) ∧ Errs w A ∧ bookBlocks B K K.G ∧ OwnOrds w lo (some ⟨K.G, 0, none⟩) B.orders.length (bX B) K.G K.gs K.sa K.sc ∧ (∀ k, k < (bX B i).secs.length → 0 ≤ sV (bX B i) k ∧ sV (bX B i) k < B.n ∧ sV (bX B i) k < 60)) := ⟨h, hR, hbx, hE, hG, h1, hV⟩; have v2 : w.cell? ⟨3, 0, none⟩ = some (errV A 2) := hE.v 2 (by omega); clear hbx h h1 h2 h3 hE hR x4 hf hG hV
 by_cases s1 : (bX B i).state = 1
 case neg =>
  have t1 : ((bX B i).state != 1) = true := by simpa using s1
  have HS : Hid ((bX B i).state ≠ 1) := s1; clear s1
  go_enter Tryz.func88, Tryz.ntmps88
  go_wp2; go_ret; refine ⟨some 2, rfl, by unfold ErrOk; simp, ?_⟩; rw [doGive_no (giveC_state HS.out) (by decide)]; exact ⟨rfl, HH.out.1, Fr.refl _ _⟩
 have t1 : ((bX B i).state != 1) = false := by simp [s1]
 have HS : Hid ((bX B i).state = 1) := s1; clear s1
 go_enter Tryz.func88, Tryz.ntmps88
 go_wp2_with fail
 refine (sectionOwners_any (some ⟨K.G, 0, none⟩) co B.orders.length (bX B) _ ho (fun j hj => (HH.out.2.1.2.1 j hj).2.2.1.mono HH.out.2.1.1.1.2) ⟨K.G, 0, fun _ => rfl, fun j hj => ⟨K.sa j, K.sc j, by rw [Nat.zero_add]; exact HH.out.2.2.2.2.2.1.ordAt hj⟩⟩).mono ?_; rintro e w1 ⟨hr, hb⟩; have H1 := HH.out.1.below hb; have bx1 := (hb.block _ (Array.getElem?_eq_some_iff.1 HH.out.2.2.1).1).trans HH.out.2.2.1; have E1 := HH.out.2.2.2.1.below hb; rcases hr with ⟨gm, m, F, rfl, hgm, hmap, hinv⟩ | ⟨rfl, i', j', hi', hj', hcl⟩
 case inr => exact absurd hcl (HH.out.2.1.2.2.1 i' hi' j' hj')
 obtain ⟨⟨x0, x1, x2, x3, x4⟩, hf, hG⟩ := ord_facts H1 hi; have HX : Hid (Cells w1 (K.sa i) (bX B i).secs.length (iV (bX B i).secs)) := x4; obtain ⟨o0, o1, o2, o3⟩ := box_cells bx1; have f3 := hf (i * 4 + 3); have v3 : w1.cell? ⟨4, 0, none⟩ = some (errV A 3) := E1.v 3 (by omega); have v5 : w1.cell? ⟨6, 0, none⟩ = some (errV A 5) := E1.v 5 (by omega); have v7 : w1.cell? ⟨8, 0, none⟩ = some (errV A 7) := E1.v 7 (by omega); have HI : Hid (Inv (bX B) B.orders.length 0 F) := hinv; have HF : Hid (OwnBook w1 lo (.agg #[.int .i64 B.n, .slice (some ⟨K.G, 0, none⟩) B.orders.length co, .slice al B.locked.length cl, .slice ac B.occ.length cc]) B K ∧ Fr (bookBlocks B K) w w1 ∧ bookBlocks B K K.G) := ⟨H1, Fr.of_below hb, hG⟩; have HM : Hid (MapIs w1 gm m F) := hmap; clear hb H1 bx1 E1 hgm hmap hinv x4 hf hG v2; obtain ⟨n, hn⟩ : ∃ n, n = (bX B i).secs.length := ⟨_, rfl⟩; have HN : Hid (n = (bX B i).secs.length) := hn; rw [← hn] at hsec x2; clear hn; go_wp2; obtain ⟨bs, os, hds, gs'⟩ := HX.out; rw [← HN.out] at hds gs'
 go_loop [37] (fun q => ∃ k : Nat, k ≤ n ∧ q = .int .i64 k ∧ ∀ j, j < k → F (sV (bX B i) j) = none) (fun q => n - (intOf q).toNat)
 case atStart => exact ⟨0, Nat.zero_le _, rfl, fun j hj => absurd hj (by omega)⟩
 case round =>
  obtain ⟨k, hk, rfl, hall⟩ := hrel; have HA : Hid (∀ j, j < k → F (sV (bX B i) j) = none) := hall; clear hall
  by_cases hlt : k < n
  ·
   have hsa := hds (by omega); rw [hsa] at x2 ⊢; have e1 : w1.cell? ⟨bs, os + k, none⟩ = some (.int .i64 (sV (bX B i) k)) := gs' k hlt; have HW : Hid ((Lit.int .i64 (sV (bX B i) k)).wf = true) := WalkArith.wf_i64 (by have := HH.out.2.2.2.2.2.2 k (by rw [← HN.out]; exact hlt); omega); clear gs' hds hsa; cases hF : F (sV (bX B i) k) with
   | some u =>
    have HT : Hid (Taken B i) := (taken_iff HI.out i).2 ⟨k, by rw [← HN.out]; exact hlt, by rw [hF]; rfl⟩; have e5 : (F (sV (bX B i) k)).isSome = true := by rw [hF]; rfl
    clear hF
    go_wp2_with (at_lookup; refine wpList_look rfl _ _ rfl gm m F rfl HM.out (sV (bX B i) k) rfl HW.out ?_)
    go_ret; refine ⟨some 3, rfl, by unfold ErrOk; simp, ?_⟩; rw [doGive_no (giveC_taken HS.out HT.out) (by decide)]; exact ⟨rfl, HF.out.1, HF.out.2.1⟩
   | none =>
    have HT : Hid (F (sV (bX B i) k) = none) := hF; have e5 : (F (sV (bX B i) k)).isSome = false := by rw [hF]; rfl
    clear hF
    go_wp2_with (at_lookup; refine wpList_look rfl _ _ rfl gm m F rfl HM.out (sV (bX B i) k) rfl HW.out ?_)
    go_round
    case rel =>
     refine ⟨k + 1, by omega, by go_num, fun j hj => ?_⟩
     by_cases e : j = k
     · subst e; exact HT.out
     · exact HA.out j (by omega)
    case measure => simp [intOf]; omega
  ·
   obtain rfl : k = n := by omega
   have HT : Hid (¬ Taken B i) := fun t => by
    obtain ⟨q, q1, q2⟩ := (taken_iff HI.out i).1 t; rw [HA.out q (by rw [HN.out]; exact q1)] at q2; cases q2
   clear gs' hds; rw [HN.out] at x2 hsec
   have CL : Cells w1 al B.locked.length (bV B.locked) ∧ Cells w1 ac B.occ.length (bV B.occ) := by
    obtain ⟨_, _, _, _, _, _, e, -, q2, q3⟩ := HF.out.1.shape; simp only [Value.agg.injEq, Array.mk.injEq, List.cons.injEq, Value.slice.injEq, and_true, true_and] at e; obtain ⟨-, ⟨rfl, rfl⟩, ⟨rfl, rfl⟩⟩ := e; exact ⟨q2.cells, q3.cells⟩
   have HL : Hid (Cells w1 al B.locked.length (bV B.locked) ∧ Cells w1 ac B.occ.length (bV B.occ)) := CL; clear CL; have HVL : Hid (∀ k, k < (bX B i).secs.length → 0 ≤ sV (bX B i) k ∧ sV (bX B i) k < B.locked.length) := fun k hk => by have := HH.out.2.2.2.2.2.2 k hk; have := HH.out.2.1.1.2.1; omega
   have HVC : Hid (∀ k, k < (bX B i).secs.length → 0 ≤ sV (bX B i) k ∧ sV (bX B i) k < B.occ.length) := fun k hk => by have := HH.out.2.2.2.2.2.2 k hk; have := HH.out.2.1.1.2.2.1; omega
   by_cases hmk : Marked B.locked (bX B i)
   ·
    have HMk : Hid (Marked B.locked (bX B i)) := hmk; clear hmk; go_wp2
    go_region_held3 (fun w' => w'.cell? ⟨p, 2, none⟩ = some (.slice al B.locked.length cl) ∧ w'.cell? ⟨K.G, i * 4 + 2, none⟩ = some (.slice (K.sa i) (bX B i).secs.length (K.sc i))) (go_keep) (first | (go_at_call 99; refine (anyMarked_dec al (K.sa i) cl (K.sc i) B.locked (bX B i) true _ ⟨fun _ => HMk.out, fun _ => rfl⟩ (by omega) HVL.out (HL.out.1.below (Below.refl _ _).drew) (HX.out.below (Below.refl _ _).drew)).mono ?_; rintro e w' ⟨rfl, rfl⟩))
    go_wp2; go_ret; refine ⟨some 5, rfl, by unfold ErrOk; simp, ?_⟩; rw [doGive_no (giveC_locked HS.out HT.out HMk.out) (by decide)]; exact ⟨rfl, HF.out.1.drew, HF.out.2.1.drew⟩
   ·
    have HMk : Hid (¬ Marked B.locked (bX B i)) := hmk; clear hmk; go_wp2
    go_region_held3 (fun w' => w'.cell? ⟨p, 2, none⟩ = some (.slice al B.locked.length cl) ∧ w'.cell? ⟨K.G, i * 4 + 2, none⟩ = some (.slice (K.sa i) (bX B i).secs.length (K.sc i))) (go_keep) (first | (go_at_call 99; refine (anyMarked_dec al (K.sa i) cl (K.sc i) B.locked (bX B i) false _ ⟨fun e => (by cases e), fun q => absurd q HMk.out⟩ (by omega) HVL.out (HL.out.1.below (Below.refl _ _).drew) (HX.out.below (Below.refl _ _).drew)).mono ?_; rintro e w' ⟨rfl, rfl⟩))
    clear o0 o1 x0 v3 v5
    by_cases hkd : (bX B i).kind = 2
    ·
     have t2 : ((bX B i).kind == 2) = true := by simpa using hkd
     have HKd : Hid ((bX B i).kind = 2) := hkd; clear hkd
     by_cases hoc : Marked B.occ (bX B i)
     ·
      have HOc : Hid (Marked B.occ (bX B i)) := hoc; clear hoc; go_wp2; refine wp_region_held_drew (S := (fun w' => w'.cell? ⟨K.G, i * 4 + 1, none⟩ = some (.int .i64 (bX B i).kind) ∧ w'.cell? ⟨p, 3, none⟩ = some (.slice ac B.occ.length cc) ∧ w'.cell? ⟨K.G, i * 4 + 2, none⟩ = some (.slice (K.sa i) (bX B i).secs.length (K.sc i)))) (by kernel_rfl) ⟨x1, o3, x2⟩ (fun hS0 => ?_); refine tk 0 rfl ?_; refine tk 1 rfl ?_; refine tk 2 rfl ?_; refine tk 3 rfl ?_; refine tk 4 rfl ?_; refine tk 5 rfl ?_; refine tk 6 rfl ?_; refine tk 7 rfl ?_; refine tk 8 rfl ?_; refine tk 9 rfl ?_; refine tk 10 rfl ?_; refine tk 11 rfl ?_; refine tk 12 rfl ?_; refine tk 13 rfl ?_; refine rdy1 14 rfl (fun Kx hK => ?_); go_simp; refine (anyMarked_dec ac (K.sa i) cc (K.sc i) B.occ (bX B i) true _ ⟨fun _ => HOc.out, fun _ => rfl⟩ (by omega) HVC.out (HL.out.2.below (Below.refl _ _).drew.drew) (HX.out.below (Below.refl _ _).drew.drew)).mono ?_; rintro e w' ⟨rfl, rfl⟩; refine hK.out _ _ hS0 (fun hS1 => ?_); clear hK Kx; refine tk 15 rfl ?_; refine wpAnyH_done (by kernel_rfl) ?_ _; go_simp; go_wp2; go_ret; refine ⟨some 7, rfl, by unfold ErrOk; simp, ?_⟩; rw [doGive_no (giveC_occ HS.out HT.out HMk.out HKd.out HOc.out) (by decide)]; exact ⟨rfl, HF.out.1.drew.drew, HF.out.2.1.drew.drew⟩
     ·
      have HOc : Hid (¬ Marked B.occ (bX B i)) := hoc; clear hoc; go_wp2; refine wp_region_held_drew (S := (fun w' => w'.cell? ⟨K.G, i * 4 + 1, none⟩ = some (.int .i64 (bX B i).kind) ∧ w'.cell? ⟨p, 3, none⟩ = some (.slice ac B.occ.length cc) ∧ w'.cell? ⟨K.G, i * 4 + 2, none⟩ = some (.slice (K.sa i) (bX B i).secs.length (K.sc i)))) (by kernel_rfl) ⟨x1, o3, x2⟩ (fun hS0 => ?_); refine tk 0 rfl ?_; refine tk 1 rfl ?_; refine tk 2 rfl ?_; refine tk 3 rfl ?_; refine tk 4 rfl ?_; refine tk 5 rfl ?_; refine tk 6 rfl ?_; refine tk 7 rfl ?_; refine tk 8 rfl ?_; refine tk 9 rfl ?_; refine tk 10 rfl ?_; refine tk 11 rfl ?_; refine tk 12 rfl ?_; refine tk 13 rfl ?_; refine rdy1 14 rfl (fun Kx hK => ?_); go_simp; refine (anyMarked_dec ac (K.sa i) cc (K.sc i) B.occ (bX B i) false _ ⟨fun e => (by cases e), fun q => absurd q HOc.out⟩ (by omega) HVC.out (HL.out.2.below (Below.refl _ _).drew.drew) (HX.out.below (Below.refl _ _).drew.drew)).mono ?_; rintro e w' ⟨rfl, rfl⟩; refine hK.out _ _ hS0 (fun hS1 => ?_); clear hK Kx; refine tk 15 rfl ?_; refine wpAnyH_done (by kernel_rfl) ?_ _; go_simp; go_wp2; go_ret; refine ⟨none, rfl, Or.inl rfl, ?_⟩; rw [doGive_yes (giveC_ok HS.out HT.out HMk.out (fun q => HOc.out q.2))]; exact ⟨rfl, HF.out.1.drew.drew.setState hi 2, HF.out.2.1.drew.drew.setCell (p := ⟨K.G, i * 4 + 3, none⟩) HF.out.2.2 _⟩
    ·
     have t2 : ((bX B i).kind == 2) = false := by simpa using hkd
     have HKd : Hid (¬ (bX B i).kind = 2) := hkd; clear hkd; go_wp2; refine wp_region_held_drew (S := (fun w' => w'.cell? ⟨K.G, i * 4 + 1, none⟩ = some (.int .i64 (bX B i).kind) ∧ w'.cell? ⟨p, 3, none⟩ = some (.slice ac B.occ.length cc) ∧ w'.cell? ⟨K.G, i * 4 + 2, none⟩ = some (.slice (K.sa i) (bX B i).secs.length (K.sc i)))) (by kernel_rfl) ⟨x1, o3, x2⟩ (fun hS0 => ?_); refine tk 0 rfl ?_; refine tk 1 rfl ?_; refine tk 2 rfl ?_; refine tk 3 rfl ?_; refine tk 4 rfl ?_; refine tk 5 rfl ?_; refine tu 6 rfl ?_; refine tu 7 rfl ?_; refine tu 8 rfl ?_; refine tu 9 rfl ?_; refine tu 10 rfl ?_; refine tu 11 rfl ?_; refine tu 12 rfl ?_; refine tu 13 rfl ?_; refine tu 14 rfl ?_; refine tk 15 rfl ?_; refine wpAnyH_done (by kernel_rfl) ?_ _; go_simp; go_wp2; go_ret; refine ⟨none, rfl, Or.inl rfl, ?_⟩; rw [doGive_yes (giveC_ok HS.out HT.out HMk.out (fun q => HKd.out q.1))]; exact ⟨rfl, HF.out.1.drew.drew.setState hi 2, HF.out.2.1.drew.drew.setCell (p := ⟨K.G, i * 4 + 3, none⟩) HF.out.2.2 _⟩
end Go.Proofs.YtdlaekjofgbjcaaGreatDoor
/-
 The contract of impl.repeat. Mine, by template (wip/gen.py).
-/
namespace Go.Proofs.YtdlaekjofgbjcaaGreatDoor
open Go.RowKit
theorem textIs_ord {B : Bk} {i : Nat} {l : List UInt8} (h : TextIs B (i : Int) l) (hR : Right B) (hi : i < B.orders.length) : OrdT B i l := by
 rcases h with ⟨h1, _⟩ | ⟨_, j, e, _, h2⟩
 · exact absurd ⟨hR, by omega, by omega⟩ h1
 ·
  obtain rfl : i = j := by omega
  exact h2
theorem doRepeat_state {B : Bk} {i : Nat} {h t : ByteArray} (a : (bX B i).state ≠ 2) : doRepeat B i h t = (2, B) := by unfold doRepeat; rw [if_pos a]
theorem doRepeat_holder {B : Bk} {i : Nat} {h t : ByteArray} (a : (bX B i).state = 2) (b : (bX B i).holder ≠ h) : doRepeat B i h t = (3, B) := by unfold doRepeat; rw [if_neg (fun q => q a), if_pos b]
theorem doRepeat_text {B : Bk} {i : Nat} {h t : ByteArray} (a : (bX B i).state = 2) (b : (bX B i).holder = h) (c : ¬ OrdT B i (bl t)) : doRepeat B i h t = (4, setState B i 5) := by unfold doRepeat; rw [if_neg (fun q => q a), if_neg (fun q => q b), if_pos c]
theorem doRepeat_ok {B : Bk} {i : Nat} {h t : ByteArray} (a : (bX B i).state = 2) (b : (bX B i).holder = h) (c : OrdT B i (bl t)) : doRepeat B i h t = (0, setState B i 3) := by unfold doRepeat; rw [if_neg (fun q => q a), if_neg (fun q => q b), if_neg (fun q => q c)]
set_option maxHeartbeats 8000000 in
theorem repeat_any (A : Nat → Addr) (v : Value) (B : Bk) (K : Blk) (lo p i : Nat) (s t : ByteArray) (w : World) (hE : Errs w A) (hT : Lib.TabIs Tryz.prog w "internal/strconv.uint64pow10" .u64 Lib.pow10Tab) (h : OwnBook w lo v B K) (hp : BoxAt w p v) (hR : Right B) (hi : i < B.orders.length)
  (hsm : B.orders.length ≤ 1048576 ∧ ∀ i, i < B.orders.length → (bX B i).secs.length ≤ 1048576 ∧ (bX B i).holder.size ≤ 1048576) :
  Calls Tryz.prog 89 #[.pointer (some ⟨p, 0, none⟩), .agg #[.int .i64 (i : Int), .string s, .string t]] w fun e w' => RetX A e w w' lo v B K (doRepeat B i s t) := by
 obtain ⟨ao, co, al, cl, ac, cc, rfl, h1, -, -⟩ := h.shape; obtain ⟨a, b, c, d, e, hbx⟩ := hp; simp only [Value.agg.injEq, Array.mk.injEq, List.cons.injEq, and_true] at e; obtain ⟨rfl, rfl, rfl, rfl⟩ := e; obtain rfl : ao = some ⟨K.G, 0, none⟩ := h1.head (by omega); have B1 : Below w.heap.size w (w.alloc (.cells #[.int .i64 (i : Int), .string s, .string t] 142)) := below1 _ _; have H1 := h.below B1; have E1 := hE.below B1; have T1 := tab_below hT B1; have bx1 : (w.alloc (.cells #[.int .i64 (i : Int), .string s, .string t] 142)).heap[p]? = some (.cells #[.int .i64 B.n, .slice (some ⟨K.G, 0, none⟩) B.orders.length co, .slice al B.locked.length cl, .slice ac B.occ.length cc] 37 (0, 0)) := (B1.block _ (Array.getElem?_eq_some_iff.1 hbx).1).trans hbx; have bh1 : (w.alloc (.cells #[.int .i64 (i : Int), .string s, .string t] 142)).heap[w.heap.size]? = some (.cells #[.int .i64 (i : Int), .string s, .string t] 142 (0, 0)) := Deep.blk_alloc_new _ _; obtain ⟨W, hW⟩ : ∃ W, W = (w.alloc (.cells #[.int .i64 (i : Int), .string s, .string t] 142)) := ⟨_, rfl⟩; have zW : w.heap.size < W.heap.size := by rw [hW]; simp
 go_enter Tryz.func89, Tryz.ntmps89
 go_wp2; rw [← hW] at B1 H1 E1 T1 bx1 bh1 ⊢; clear hW; obtain ⟨⟨x0, x1, x2, x3, x4⟩, hf, hG⟩ := ord_facts H1 hi; obtain ⟨o0, o1, o2, o3⟩ := box_cells bx1; obtain ⟨n0, n1, n2⟩ : W.cell? ⟨w.heap.size, 0, none⟩ = some (.int .i64 (i : Int)) ∧ W.cell? ⟨w.heap.size, 1, none⟩ = some (.string s) ∧ W.cell? ⟨w.heap.size, 2, none⟩ = some (.string t) := ⟨cell_of_box bh1 rfl, cell_of_box bh1 rfl, cell_of_box bh1 rfl⟩; have f3 := hf (i * 4 + 3); have v2 : W.cell? ⟨3, 0, none⟩ = some (errV A 2) := E1.v 2 (by omega); have v4 : W.cell? ⟨5, 0, none⟩ = some (errV A 4) := E1.v 4 (by omega); have hi0 : (0 : Int) ≤ (i : Int) := by omega
 have hi1 : (i : Int) < (B.orders.length : Int) := by omega
 have HH : Hid (OwnBook W lo (.agg #[.int .i64 B.n, .slice (some ⟨K.G, 0, none⟩) B.orders.length co, .slice al B.locked.length cl, .slice ac B.occ.length cc]) B K ∧ Right B ∧ W.heap[p]? = some (.cells #[.int .i64 B.n, .slice (some ⟨K.G, 0, none⟩) B.orders.length co, .slice al B.locked.length cl, .slice ac B.occ.length cc] 37 (0, 0)) ∧ Errs W A ∧ bookBlocks B K K.G ∧ Lib.TabIs Tryz.prog W "internal/strconv.uint64pow10" .u64 Lib.pow10Tab ∧ Fr (bookBlocks B K) w W) := ⟨H1, hR, bx1, E1, hG, T1, Fr.of_below B1⟩; clear h h1 hE hT hbx B1 H1 E1 T1 bx1 bh1 x4 hf hG hR x1 x2
 go_region_held3 (fun w' => w'.cell? ⟨p, 1, none⟩ = some (.slice (some ⟨K.G, 0, none⟩) B.orders.length co) ∧ w'.cell? ⟨w.heap.size, 0, none⟩ = some (.int .i64 (i : Int))) (go_keep) (fail)
 by_cases s1 : (bX B i).state = 2
 case neg =>
  have t1 : ((bX B i).state != 2) = true := by simpa using s1
  have HS : Hid ((bX B i).state ≠ 2) := s1; clear s1; go_wp2; go_ret; refine ⟨some 2, rfl, by unfold ErrOk; simp, ?_⟩; rw [doRepeat_state HS.out]; exact ⟨rfl, HH.out.1.drew, HH.out.2.2.2.2.2.2.drew⟩
 have t1 : ((bX B i).state != 2) = false := by simp [s1]
 have HS : Hid ((bX B i).state = 2) := s1; clear s1
 by_cases s2 : (bX B i).holder = s
 case neg =>
  have t2 := strEq_f s2; have HS2 : Hid ((bX B i).holder ≠ s) := s2; clear s2; go_wp2
  go_region_held3 (fun w' => w'.cell? ⟨K.G, i * 4, none⟩ = some (.string (bX B i).holder) ∧ w'.cell? ⟨w.heap.size, 1, none⟩ = some (.string s)) (go_keep) (fail)
  go_wp2; go_ret; refine ⟨some 4, rfl, by unfold ErrOk; simp, ?_⟩; rw [doRepeat_holder HS.out HS2.out]; exact ⟨rfl, HH.out.1.drew.drew, HH.out.2.2.2.2.2.2.drew.drew⟩
 have t2 := strEq_t s2; have HS2 : Hid ((bX B i).holder = s) := s2; clear s2; go_wp2
 go_region_held3 (fun w' => w'.cell? ⟨K.G, i * 4, none⟩ = some (.string (bX B i).holder) ∧ w'.cell? ⟨w.heap.size, 1, none⟩ = some (.string s)) (go_keep) (fail)
 go_wp2; have zp : p < W.heap.size := (Array.getElem?_eq_some_iff.1 HH.out.2.2.1).1; have hb0 : Below W.heap.size W W.drew.drew.drew := (Below.refl _ _).drew.drew.drew; have HB0 : Hid (Below W.heap.size W W.drew.drew.drew) := hb0; clear hb0
 go_region_held3 (fun w' => w'.cell? ⟨w.heap.size, 2, none⟩ = some (.string t) ∧ w'.cell? ⟨p, 0, none⟩ = some (.int .i64 B.n) ∧ w'.cell? ⟨p, 1, none⟩ = some (.slice (some ⟨K.G, 0, none⟩) B.orders.length co) ∧ w'.cell? ⟨p, 2, none⟩ = some (.slice al B.locked.length cl) ∧ w'.cell? ⟨p, 3, none⟩ = some (.slice ac B.occ.length cc) ∧ w'.cell? ⟨w.heap.size, 0, none⟩ = some (.int .i64 (i : Int))) (go_keep)
  (first | (go_at_call 78; refine (implOrderText_any _ B (i : Int) _ hsm.1 hsm.2 (tab_below HH.out.2.2.2.2.2.1 HB0.out) (HH.out.1.below HB0.out).bookAt).mono ?_; rintro e w2 ⟨⟨s', rfl, hs'⟩, hb2⟩; have hbR : Below W.heap.size W w2 := below_trans HB0.out HB0.out.size hb2; obtain ⟨hc1, hf1⟩ := bcell hbR; have HT : Hid (OrdT B i (bl s') ∧ Below W.heap.size W w2) := ⟨textIs_ord hs' HH.out.2.1 hi, hbR⟩; clear hb2 hs' hbR))
 have H2 := HH.out.1.below HT.out.2; obtain ⟨⟨-, -, -, y3, -⟩, hf2, -⟩ := ord_facts H2 hi; have g3 := hf2 (i * 4 + 3); have E2 := HH.out.2.2.2.1.below HT.out.2; have v6 : w2.cell? ⟨7, 0, none⟩ = some (errV A 6) := E2.v 6 (by omega); have HZ : Hid (OwnBook w2 lo (.agg #[.int .i64 B.n, .slice (some ⟨K.G, 0, none⟩) B.orders.length co, .slice al B.locked.length cl, .slice ac B.occ.length cc]) B K ∧ Fr (bookBlocks B K) w w2 ∧ bookBlocks B K K.G) := ⟨H2, HH.out.2.2.2.2.2.2.trans (Fr.of_below HT.out.2), HH.out.2.2.2.2.1⟩; clear H2 hf2 E2 hc1 hf1 v2 v4 x0 x3 f3 o0 o1 o2 o3 n0 n1 n2
 by_cases s3 : t = s'
 ·
  subst s3; have HS3 : Hid (OrdT B i (bl t)) := HT.out.1; have t3 : (!(t.toList == t.toList)) = false := by rw [strEq_t rfl]; rfl
  rw [t3]; clear t3; go_wp2; go_ret; refine ⟨none, rfl, Or.inl rfl, ?_⟩; rw [doRepeat_ok HS.out HS2.out HS3.out]; exact ⟨rfl, HZ.out.1.setState hi 3, HZ.out.2.1.setCell (p := ⟨K.G, i * 4 + 3, none⟩) HZ.out.2.2 _⟩
 ·
  have t3 : (!(t.toList == s'.toList)) = true := by rw [strEq_f s3]; rfl
  have HS3 : Hid (¬ OrdT B i (bl t)) := fun q => s3 (bl_inj (q.det HT.out.1)); rw [t3]; clear s3 t3; go_wp2; go_ret; refine ⟨some 6, ?_, by unfold ErrOk; simp, ?_⟩
  · rfl
  ·
   rw [doRepeat_text HS.out HS2.out HS3.out]; exact ⟨rfl, HZ.out.1.setState hi 5, HZ.out.2.1.setCell (p := ⟨K.G, i * 4 + 3, none⟩) HZ.out.2.2 _⟩
end Go.Proofs.YtdlaekjofgbjcaaGreatDoor
/-
 The contract of impl.write. Mine, by program (wip/ido4.py), by template (wip/gen.py).
-/
namespace Go.Proofs.YtdlaekjofgbjcaaGreatDoor
open Go.RowKit
def RetY (A : Nat → Addr) (e : Ending) (w w' : World) (lo p : Nat) (r : Int × Bk) : Prop :=
 ∃ o v' K', e = .returned (errO A o) ∧ ErrOk o ∧ codeN o = r.1 ∧ OwnBook w' lo v' r.2 K' ∧ BoxAt w' p v' ∧ Below lo w w'
theorem RetX.toY {A : Nat → Addr} {e : Ending} {w w' : World} {lo p : Nat} {v : Value} {B : Bk} {K : Blk} {r : Int × Bk} (h : RetX A e w w' lo v B K r) (h0 : OwnBook w lo v B K) (hp : BoxAt w p v) (hn : ∀ b, bookBlocks B K b → b ≠ p) (hlo : lo ≤ w.heap.size) : RetY A e w w' lo p r := by
 obtain ⟨o, e1, e2, e3, h1, hf⟩ := h; obtain ⟨a, b, c, d, ev, hb⟩ := hp; exact ⟨o, v, K, e1, e2, e3, h1, ⟨a, b, c, d, ev, (hf.block _ (Array.getElem?_eq_some_iff.1 hb).1 (fun q => hn _ q rfl)).trans hb⟩, hf.below hlo (fun i hi => h0.blocks_low hi)⟩
theorem bX_add (B : Bk) (x : Ord) (i : Nat) (hi : i < B.orders.length + 1) : bX (addOrd B x) i = put1 (bX B) B.orders.length x i := by
 show (B.orders ++ [x]).getD i Ord.zero = _
 unfold put1
 by_cases e : i = B.orders.length
 · rw [if_pos e, e]; simp [List.getD_eq_getElem?_getD]
 ·
  rw [if_neg e]; have : i < B.orders.length := by omega
  unfold bX; simp [List.getD_eq_getElem?_getD, List.getElem?_append_left this]
theorem ownBook_push {w4 wU : World} {lo : Nat} {B : Bk} {K : Blk} {x : Ord} {al ac : Option Addr} {cl cc : Nat} {u vU : Value} {GS : Nat} {adS : Option Addr} {cS : Nat}
  (h : RowBook w4 lo (.agg #[.int .i64 B.n, u, .slice al B.locked.length cl, .slice ac B.occ.length cc]) B K)
  (hs : 0 < x.secs.length → adS = some ⟨GS, 0, none⟩ ∧ Pre w4 GS 3 x.secs.length (iV x.secs) ∧ lo ≤ GS ∧ ∀ b, bookBlocks B K b → b ≠ GS)
  (hU : wU.ownsRow lo 41 4 vU (B.orders.length + 1) (flat (bX B) K.sa K.sc B.orders.length ++ cellsOf x adS cS)) (hg : w4.grownBy wU u.ownBlock) (hk : vU.ownBlock = u.ownBlock ∨ vU.ownBlock = some w4.heap.size) :
  ∃ K' adU cU, vU = .slice adU (B.orders.length + 1) cU ∧ OwnBook wU lo (.agg #[.int .i64 B.n, vU, .slice al B.locked.length cl, .slice ac B.occ.length cc]) (addOrd B x) K' ∧ ∀ b, bookBlocks (addOrd B x) K' b → bookBlocks B K b ∨ (0 < x.secs.length ∧ b = GS) ∨ b = w4.heap.size := by
 obtain ⟨u', x1, x2, e, hrow, hub⟩ := h.row; simp only [Value.agg.injEq, Array.mk.injEq, List.cons.injEq, and_true, true_and] at e; obtain ⟨rfl, -, -⟩ := e; have hu0 : B.orders.length = 0 → u.ownBlock = none := fun e => by rw [hrow.nil e]; rfl
 have hublk : ∀ g, u.ownBlock = some g → 0 < B.orders.length ∧ g = K.G := fun g hgg => by
  rcases Nat.eq_zero_or_pos B.orders.length with e | e
  · rw [hu0 e] at hgg; cases hgg
  · rw [hub e] at hgg; exact ⟨e, (Option.some.inj hgg).symm⟩
 have push := RowOrds.push hrow x GS adS cS (fun q => by
  obtain ⟨t1, t2, t3, t4⟩ := hs q
  exact ⟨t1, t2, t3, fun e => t4 K.G (Or.inl (Or.inl ⟨(hublk _ e).1, rfl⟩)) (hublk _ e).2.symm, fun i hi hp => t4 _ (Or.inl (Or.inr ⟨i, hi, hp, rfl⟩))⟩) hU hg hk
 obtain ⟨ad2, c2, G2, rfl, hown, hG2⟩ := push.own
 have hGk : G2 = K.G ∧ 0 < B.orders.length ∨ G2 = w4.heap.size := by
  have e1 := hG2 (by omega); rcases hk with e | e
  ·
   rw [e1] at e; have := hublk G2 e.symm; exact Or.inl ⟨this.2, this.1⟩
  · rw [e1] at e; exact Or.inr (Option.some.inj e)
 obtain ⟨⟨ao, co, al', cl', ac', cc', ev, h1, h2, h3⟩, q1, q2, q3, q4, q5⟩ := h.own; simp only [Value.agg.injEq, Array.mk.injEq, List.cons.injEq, Value.slice.injEq, and_true, true_and] at ev; obtain ⟨-, ⟨rfl, rfl⟩, ⟨rfl, rfl⟩⟩ := ev; have hlen : (addOrd B x).orders.length = B.orders.length + 1 := by simp [addOrd]
 have keep : ∀ g, g < w4.heap.size → (0 < B.orders.length → g ≠ K.G) → wU.heap[g]? = w4.heap[g]? := fun g hl hne => hg.block g hl (fun e => by have := hublk g e.symm; exact hne this.1 this.2)
 have sx : ∀ i, i < B.orders.length + 1 → ((addOrd B x).orders.getD i Ord.zero).secs.length = (put1 (bX B) B.orders.length x i).secs.length := fun i hi => by
  have := bX_add B x i hi; unfold bX at this; rw [this]; rfl
 have gsne : ∀ i, i < B.orders.length + 1 → 0 < (put1 (bX B) B.orders.length x i).secs.length → (put1 K.gs B.orders.length GS i = GS ∧ 0 < x.secs.length) ∨ (∃ j, j < B.orders.length ∧ 0 < (bX B j).secs.length ∧ put1 K.gs B.orders.length GS i = K.gs j) := fun i hi hp => by
  by_cases e : i = B.orders.length
  · subst e; rw [put1_new] at hp ⊢; exact Or.inl ⟨rfl, hp⟩
  ·
   have hi' : i < B.orders.length := by omega
   rw [put1_old _ _ _ hi'] at hp ⊢; exact Or.inr ⟨i, hi', hp, rfl⟩
 refine ⟨⟨G2, put1 K.gs B.orders.length GS, put1 K.sa B.orders.length adS, put1 K.sc B.orders.length cS, K.L, K.C⟩, ad2, c2, rfl, ⟨⟨ad2, c2, al, cl, ac, cc, by rw [hlen]; rfl, ?_, h2.ofBlock (fun p => keep _ (h2.row p).lt (fun a => q1 a p)), h3.ofBlock (fun p => keep _ (h3.row p).lt (fun a => q2 a p))⟩, fun _ p => ?_, fun _ p => ?_, q3, fun p i hi hp => ?_, fun p i hi hp => ?_⟩, fun b hb => ?_⟩
 ·
  rw [hlen]; exact hown.congr (fun i hi => (bX_add B x i hi).symm)
 ·
  rcases hGk with ⟨e, a⟩ | e
  · show K.L ≠ G2; rw [e]; exact q1 a p
  · have := (h2.row p).lt; show K.L ≠ G2; omega
 ·
  rcases hGk with ⟨e, a⟩ | e
  · show K.C ≠ G2; rw [e]; exact q2 a p
  · have := (h3.row p).lt; show K.C ≠ G2; omega
 ·
  rw [hlen] at hi; rw [sx i hi] at hp; show put1 K.gs B.orders.length GS i ≠ K.L
  rcases gsne i hi hp with ⟨e, q⟩ | ⟨j, hj, hq, e⟩
  · rw [e]; exact fun q' => (hs q).2.2.2 K.L (Or.inr (Or.inl ⟨p, rfl⟩)) q'.symm
  · rw [e]; exact q4 p j hj hq
 ·
  rw [hlen] at hi; rw [sx i hi] at hp; show put1 K.gs B.orders.length GS i ≠ K.C
  rcases gsne i hi hp with ⟨e, q⟩ | ⟨j, hj, hq, e⟩
  · rw [e]; exact fun q' => (hs q).2.2.2 K.C (Or.inr (Or.inr ⟨p, rfl⟩)) q'.symm
  · rw [e]; exact q5 p j hj hq
 ·
  rcases hb with (⟨_, e⟩ | ⟨i, hi, hp, e⟩) | h | h
  ·
   rcases hGk with ⟨e', a⟩ | e'
   · exact Or.inl (Or.inl (Or.inl ⟨a, e.trans e'⟩))
   · exact Or.inr (Or.inr (e.trans e'))
  ·
   rw [hlen] at hi; have hp' : 0 < (put1 (bX B) B.orders.length x i).secs.length := by rw [← bX_add B x i hi]; exact hp
   rcases gsne i hi hp' with ⟨e', q⟩ | ⟨j, hj, hq, e'⟩
   · exact Or.inr (Or.inl ⟨q, e.trans e'⟩)
   · exact Or.inl (Or.inl (Or.inr ⟨j, hj, hq, e.trans e'⟩))
  · exact Or.inl (Or.inr (Or.inl h))
  · exact Or.inl (Or.inr (Or.inr h))
set_option maxHeartbeats 8000000 in
theorem writeOrd_any (A : Nat → Addr) (v : Value) (B : Bk) (K : Blk) (lo p : Nat) (x : Ord) (ad : Option Addr) (c : Nat) (w : World) (hE : Errs w A) (h : RowBook w lo v B K) (hp : BoxAt w p v) (hnp : ∀ b, bookBlocks B K b → b ≠ p) (hlo : lo ≤ w.heap.size) (hlp : lo ≤ p) (hO : B.orders.length ≤ 200) (hx : x.secs.length ≤ 1048576) (G : Cells w ad x.secs.length (iV x.secs)) :
  Calls Tryz.prog 87 #[.pointer (some ⟨p, 0, none⟩), .agg #[.string x.holder, .int .i64 x.kind, .slice ad x.secs.length c, .int .i64 x.state]] w fun e w' => RetY A e w w' lo p (doWrite B x) := by
 obtain ⟨io, hio, zo0, zo1, zo2⟩ := info_parts Tryz.infoOrder; obtain ⟨ao, co, al, cl, ac, cc, rfl, -, -, -⟩ := h.own.shape; have hp0 := hp; obtain ⟨a, b, c', d, e, hbx⟩ := hp; simp only [Value.agg.injEq, Array.mk.injEq, List.cons.injEq, and_true] at e; obtain ⟨rfl, rfl, rfl, rfl⟩ := e
 have pne0 : (Value.slice ao B.orders.length co).ownBlock ≠ some p := by
  obtain ⟨u, _, _, e, q, q2⟩ := h.row; simp only [Value.agg.injEq, Array.mk.injEq, List.cons.injEq, and_true] at e; obtain ⟨-, rfl, -, -⟩ := e; intro e2; rcases Nat.eq_zero_or_pos B.orders.length with e3 | e3
  ·
   have := q.nil e3; rw [this] at e2; cases e2
  ·
   rw [q2 e3] at e2; exact hnp K.G (Or.inl (Or.inl ⟨e3, rfl⟩)) (Option.some.inj e2)
 obtain ⟨W, hW⟩ : ∃ W, W = w.alloc (.cells #[.string x.holder, .int .i64 x.kind, .slice ad x.secs.length c, .int .i64 x.state] 41) := ⟨_, rfl⟩; have B1 : Below w.heap.size w W := by rw [hW]; exact below1 _ _
 have bq : W.heap[w.heap.size]? = some (.cells #[.string x.holder, .int .i64 x.kind, .slice ad x.secs.length c, .int .i64 x.state] 41 (0, 0)) := by rw [hW]; exact Deep.blk_alloc_new _ _
 have zw : w.heap.size < W.heap.size := by rw [hW]; simp
 have bx1 : W.heap[p]? = some (.cells #[.int .i64 B.n, .slice ao B.orders.length co, .slice al B.locked.length cl, .slice ac B.occ.length cc] 37 (0, 0)) := (B1.block _ (Array.getElem?_eq_some_iff.1 hbx).1).trans hbx; have E1 := hE.below B1; have zp : p < W.heap.size := (Array.getElem?_eq_some_iff.1 bx1).1; have zlo : lo ≤ W.heap.size := by omega
 obtain ⟨o0, o1, o2, o3⟩ := box_cells bx1; obtain ⟨q0, q1, q2, q3⟩ := box_cells bq; have v1 : W.cell? ⟨2, 0, none⟩ = some (errV A 1) := E1.v 1 (by omega); have HX : Hid (Cells W ad x.secs.length (iV x.secs)) := G.below B1; have HR : Hid (RowBook W lo (.agg #[.int .i64 B.n, .slice ao B.orders.length co, .slice al B.locked.length cl, .slice ac B.occ.length cc]) B K ∧ W.heap[p]? = some (.cells #[.int .i64 B.n, .slice ao B.orders.length co, .slice al B.locked.length cl, .slice ac B.occ.length cc] 37 (0, 0)) ∧ (Value.slice ao B.orders.length co).ownBlock ≠ some p ∧ Below lo w W ∧ (∀ b, bookBlocks B K b → b ≠ p)) := ⟨h.below B1, bx1, pne0, B1.mono hlo, hnp⟩; have HW : Hid (W = w.alloc (.cells #[.string x.holder, .int .i64 x.kind, .slice ad x.secs.length c, .int .i64 x.state] 41)) := hW; have o1L := o1; have v1L := v1; rw [hW] at o1L v1L; clear G h hE hbx hp0 pne0 bx1 E1 bq B1 hnp hW
 by_cases h200 : B.orders.length < 200
 case neg =>
  have t1 : decide ((200 : Int) ≤ (B.orders.length : Int)) = true := decide_eq_true (by omega)
  go_enter Tryz.func87, Tryz.ntmps87
  go_wp2; go_ret; rw [← HW.out]; obtain ⟨r1, r2, -, r4, -⟩ := HR.out; refine ⟨some 1, _, K, rfl, by unfold ErrOk; simp, ?_, ?_, ⟨_, _, _, _, rfl, r2⟩, r4⟩
  · unfold doWrite; rw [if_neg h200]; rfl
  · unfold doWrite; rw [if_neg h200]; exact r1.own
 ·
  have t1 : decide ((200 : Int) ≤ (B.orders.length : Int)) = false := decide_eq_false (by omega)
  go_enter Tryz.func87, Tryz.ntmps87
  go_wp2; rw [← HW.out]; clear t1 o1L v1L; refine wp_region_any (by kernel_rfl) ?_
  change wpAny _ _ _ _ _ _ _ (World.drew _)
  refine ta 0 rfl ?_; refine ta 1 rfl ?_; refine ta 2 rfl ?_; refine ta 3 rfl ?_; refine wpAny_ready (rs := [4, 5]) (by kernel_rfl) (by simp) ?_; refine AllReady.cons rfl (fun Kx hK => ?_) (AllReady.cons rfl (fun Kx hK => ?_) (AllReady.nil))
  ·
   go_simp; refine hK _ _ ?_; clear hK Kx; refine ra1 5 rfl (fun Kx hK => ?_); go_simp; refine hK _ _ ?_; clear hK Kx; refine ra1 6 rfl (fun Kx hK => ?_); go_simp; refine (copyOrder_any x ad c _ hx (HX.out.below (Below.refl _ _).drew)).mono ?_; rintro e wS ⟨adS, cS, GS, rfl, hGS, hbS0⟩; have hbS : Below W.heap.size W wS := (Below.refl _ _).drew.trans hbS0; have zS : W.heap.size ≤ wS.heap.size := hbS.size; have oS : wS.cell? ⟨p, 1, none⟩ = some (.slice ao B.orders.length co) := (hbS.cell (p := ⟨p, 1, none⟩) zp).trans o1; have HY : Hid ((0 < x.secs.length → adS = some ⟨GS, 0, none⟩ ∧ W.heap.size ≤ GS ∧ Pre wS GS 3 x.secs.length (iV x.secs)) ∧ Below W.heap.size W wS) := ⟨hGS, hbS⟩; refine hK _ _ ?_; clear hK Kx hGS hbS hbS0; refine ra1 7 rfl (fun Kx hK => ?_); go_simp; refine hK _ _ ?_; clear hK Kx; refine ra1 8 rfl (fun Kx hK => ?_); have S4 : Below W.heap.size W (wS.alloc (.cells #[.string x.holder, .int .i64 x.kind, .slice adS x.secs.length cS, .int .i64 x.state] 41)) := HY.out.2.alloc (by omega) _; have R4 := HR.out.1.below S4
   have n4 : ∀ j u', (cellsOf x adS cS)[j]? = some u' → (wS.alloc (.cells #[.string x.holder, .int .i64 x.kind, .slice adS x.secs.length cS, .int .i64 x.state] 41)).cell? ((⟨wS.heap.size, 0, none⟩ : Addr).add j) = some u' := by
    have hn := Deep.blk_alloc_new wS (.cells #[.string x.holder, .int .i64 x.kind, .slice adS x.secs.length cS, .int .i64 x.state] 41); intro j u' hu; rw [add0]; refine cell_of_box hn ?_; rw [← Array.getElem?_toList]; exact hu
   have hrow : (wS.alloc (.cells #[.string x.holder, .int .i64 x.kind, .slice adS x.secs.length cS, .int .i64 x.state] 41)).ownsRow lo 41 4 (.slice ao B.orders.length co) B.orders.length (flat (bX B) K.sa K.sc B.orders.length) := by
    obtain ⟨u, _, _, e, q, _⟩ := R4.row; simp only [Value.agg.injEq, Array.mk.injEq, List.cons.injEq, and_true] at e; obtain ⟨-, rfl, -, -⟩ := e; exact q.row
   have z4 : (wS.alloc (.cells #[.string x.holder, .int .i64 x.kind, .slice adS x.secs.length cS, .int .i64 x.state] 41)).heap.size = wS.heap.size + 1 := alloc_size _ _; refine wp_append_row _ _ 34 rfl lo 41 io _ 4 56 Tryz.underlying34 hio zo0 zo1 zo2 rfl (by decide) (.slice ao B.orders.length co) B.orders.length (flat (bX B) K.sa K.sc B.orders.length) rfl hrow ⟨wS.heap.size, 0, none⟩ 1 1 (cellsOf x adS cS) rfl rfl n4 ?_ (by unfold maxLen; omega) (by omega) (by rw [z4]; omega) ?_
   ·
    intro x hx; simp only [cellsOf, List.mem_cons, List.not_mem_nil, or_false] at hx
    rcases hx with rfl | rfl | rfl | rfl <;> rfl
   intro vU wU hownU hgU _ hbU; have big : ∀ b, bookBlocks B K b → b < W.heap.size := fun b hb => HR.out.1.own.blocks_lt hb
   obtain ⟨K', adU, cU, rfl, hOwn, hblk⟩ := ownBook_push R4 (x := x) (GS := GS) (adS := adS) (cS := cS) (fun q => by
    obtain ⟨t1, t2, t3⟩ := HY.out.1 q
    exact ⟨t1, t3.of_block (Deep.blk_alloc_lt _ _ _ t3.lt), by omega, fun b hb => by have := big b hb; omega⟩) hownU hgU hbU
   have pne : (Value.slice ao B.orders.length co).ownBlock ≠ some p := HR.out.2.2.1; have y2U : wU.heap[p]? = some (.cells #[.int .i64 B.n, .slice ao B.orders.length co, .slice al B.locked.length cl, .slice ac B.occ.length cc] 37 (0, 0)) := (hgU.block _ (by rw [z4]; omega) (fun e => pne e.symm)).trans ((S4.block _ zp).trans HR.out.2.1); have lowU : Below lo (wS.alloc (.cells #[.string x.holder, .int .i64 x.kind, .slice adS x.secs.length cS, .int .i64 x.state] 41)) wU := grown_below hgU (fun g hg => (owns_lt hrow hg).1) (by rw [z4]; omega)
   have HU : Hid (OwnBook wU lo (.agg #[.int .i64 B.n, .slice adU (B.orders.length + 1) cU, .slice al B.locked.length cl, .slice ac B.occ.length cc]) (addOrd B x) K' ∧ wU.heap[p]? = some (.cells #[.int .i64 B.n, .slice ao B.orders.length co, .slice al B.locked.length cl, .slice ac B.occ.length cc] 37 (0, 0)) ∧ Below lo w wU ∧ (∀ b, bookBlocks (addOrd B x) K' b → b ≠ p)) :=
    ⟨hOwn, y2U, (HR.out.2.2.2.1.trans (S4.mono zlo)).trans lowU, fun b hb => by
     rcases hblk b hb with h | ⟨q, h⟩ | h
     · exact HR.out.2.2.2.2 b h
     · have := (HY.out.1 q).2.1; omega
     · omega⟩
   have oU : wU.cell? ⟨p, 1, none⟩ = some (.slice ao B.orders.length co) := cell_of_box y2U rfl; have fU : wU.frozen? ⟨p, 1, none⟩ = false := frozen_of_box y2U; refine hK _ _ ?_; clear hK Kx hownU hgU hbU z4 y2U HY HR S4 R4 n4 oS hrow big hOwn hblk pne lowU o1; refine ta 9 rfl ?_; refine ta 10 rfl ?_; refine ra1 11 rfl (fun Kx hK => ?_); go_simp; refine hK _ _ ?_; clear hK Kx oU fU; refine wpAny_end (by kernel_rfl) ?_; go_simp; go_wp2; go_ret; obtain ⟨t1, t2, t3, t4⟩ := HU.out; refine ⟨none, _, K', rfl, Or.inl rfl, ?_, ?_, ⟨_, _, _, _, rfl, (box_set t2 _).trans rfl⟩, below_set t3 _ _ hlp _⟩
   · unfold doWrite; rw [if_pos h200]; rfl
   · unfold doWrite; rw [if_pos h200]; exact t1.setOther (a := ⟨p, 1, none⟩) t4 _
  ·
   go_simp; refine hK _ _ ?_; clear hK Kx; refine wpAny_ready (rs := [4, 6]) (by kernel_rfl) (by simp) ?_; refine AllReady.cons rfl (fun Kx hK => ?_) (AllReady.cons rfl (fun Kx hK => ?_) (AllReady.nil))
   ·
    go_simp; refine hK _ _ ?_; clear hK Kx; refine ra1 6 rfl (fun Kx hK => ?_); go_simp; refine (copyOrder_any x ad c _ hx (HX.out.below (Below.refl _ _).drew)).mono ?_; rintro e wS ⟨adS, cS, GS, rfl, hGS, hbS0⟩; have hbS : Below W.heap.size W wS := (Below.refl _ _).drew.trans hbS0; have zS : W.heap.size ≤ wS.heap.size := hbS.size; have oS : wS.cell? ⟨p, 1, none⟩ = some (.slice ao B.orders.length co) := (hbS.cell (p := ⟨p, 1, none⟩) zp).trans o1; have HY : Hid ((0 < x.secs.length → adS = some ⟨GS, 0, none⟩ ∧ W.heap.size ≤ GS ∧ Pre wS GS 3 x.secs.length (iV x.secs)) ∧ Below W.heap.size W wS) := ⟨hGS, hbS⟩; refine hK _ _ ?_; clear hK Kx hGS hbS hbS0; refine ra1 7 rfl (fun Kx hK => ?_); go_simp; refine hK _ _ ?_; clear hK Kx; refine ra1 8 rfl (fun Kx hK => ?_); have S4 : Below W.heap.size W (wS.alloc (.cells #[.string x.holder, .int .i64 x.kind, .slice adS x.secs.length cS, .int .i64 x.state] 41)) := HY.out.2.alloc (by omega) _; have R4 := HR.out.1.below S4
    have n4 : ∀ j u', (cellsOf x adS cS)[j]? = some u' → (wS.alloc (.cells #[.string x.holder, .int .i64 x.kind, .slice adS x.secs.length cS, .int .i64 x.state] 41)).cell? ((⟨wS.heap.size, 0, none⟩ : Addr).add j) = some u' := by
     have hn := Deep.blk_alloc_new wS (.cells #[.string x.holder, .int .i64 x.kind, .slice adS x.secs.length cS, .int .i64 x.state] 41); intro j u' hu; rw [add0]; refine cell_of_box hn ?_; rw [← Array.getElem?_toList]; exact hu
    have hrow : (wS.alloc (.cells #[.string x.holder, .int .i64 x.kind, .slice adS x.secs.length cS, .int .i64 x.state] 41)).ownsRow lo 41 4 (.slice ao B.orders.length co) B.orders.length (flat (bX B) K.sa K.sc B.orders.length) := by
     obtain ⟨u, _, _, e, q, _⟩ := R4.row; simp only [Value.agg.injEq, Array.mk.injEq, List.cons.injEq, and_true] at e; obtain ⟨-, rfl, -, -⟩ := e; exact q.row
    have z4 : (wS.alloc (.cells #[.string x.holder, .int .i64 x.kind, .slice adS x.secs.length cS, .int .i64 x.state] 41)).heap.size = wS.heap.size + 1 := alloc_size _ _; refine wp_append_row _ _ 34 rfl lo 41 io _ 4 56 Tryz.underlying34 hio zo0 zo1 zo2 rfl (by decide) (.slice ao B.orders.length co) B.orders.length (flat (bX B) K.sa K.sc B.orders.length) rfl hrow ⟨wS.heap.size, 0, none⟩ 1 1 (cellsOf x adS cS) rfl rfl n4 ?_ (by unfold maxLen; omega) (by omega) (by rw [z4]; omega) ?_
    ·
     intro x hx; simp only [cellsOf, List.mem_cons, List.not_mem_nil, or_false] at hx
     rcases hx with rfl | rfl | rfl | rfl <;> rfl
    intro vU wU hownU hgU _ hbU; have big : ∀ b, bookBlocks B K b → b < W.heap.size := fun b hb => HR.out.1.own.blocks_lt hb
    obtain ⟨K', adU, cU, rfl, hOwn, hblk⟩ := ownBook_push R4 (x := x) (GS := GS) (adS := adS) (cS := cS) (fun q => by
     obtain ⟨t1, t2, t3⟩ := HY.out.1 q
     exact ⟨t1, t3.of_block (Deep.blk_alloc_lt _ _ _ t3.lt), by omega, fun b hb => by have := big b hb; omega⟩) hownU hgU hbU
    have pne : (Value.slice ao B.orders.length co).ownBlock ≠ some p := HR.out.2.2.1; have y2U : wU.heap[p]? = some (.cells #[.int .i64 B.n, .slice ao B.orders.length co, .slice al B.locked.length cl, .slice ac B.occ.length cc] 37 (0, 0)) := (hgU.block _ (by rw [z4]; omega) (fun e => pne e.symm)).trans ((S4.block _ zp).trans HR.out.2.1); have lowU : Below lo (wS.alloc (.cells #[.string x.holder, .int .i64 x.kind, .slice adS x.secs.length cS, .int .i64 x.state] 41)) wU := grown_below hgU (fun g hg => (owns_lt hrow hg).1) (by rw [z4]; omega)
    have HU : Hid (OwnBook wU lo (.agg #[.int .i64 B.n, .slice adU (B.orders.length + 1) cU, .slice al B.locked.length cl, .slice ac B.occ.length cc]) (addOrd B x) K' ∧ wU.heap[p]? = some (.cells #[.int .i64 B.n, .slice ao B.orders.length co, .slice al B.locked.length cl, .slice ac B.occ.length cc] 37 (0, 0)) ∧ Below lo w wU ∧ (∀ b, bookBlocks (addOrd B x) K' b → b ≠ p)) :=
     ⟨hOwn, y2U, (HR.out.2.2.2.1.trans (S4.mono zlo)).trans lowU, fun b hb => by
      rcases hblk b hb with h | ⟨q, h⟩ | h
      · exact HR.out.2.2.2.2 b h
      · have := (HY.out.1 q).2.1; omega
      · omega⟩
    have oU : wU.cell? ⟨p, 1, none⟩ = some (.slice ao B.orders.length co) := cell_of_box y2U rfl; have fU : wU.frozen? ⟨p, 1, none⟩ = false := frozen_of_box y2U; refine hK _ _ ?_; clear hK Kx hownU hgU hbU z4 y2U HY HR S4 R4 n4 oS hrow big hOwn hblk pne lowU o1; refine ta 9 rfl ?_; refine ta 10 rfl ?_; refine ra1 11 rfl (fun Kx hK => ?_); go_simp; refine hK _ _ ?_; clear hK Kx oU fU; refine wpAny_end (by kernel_rfl) ?_; go_simp; go_wp2; go_ret; obtain ⟨t1, t2, t3, t4⟩ := HU.out; refine ⟨none, _, K', rfl, Or.inl rfl, ?_, ?_, ⟨_, _, _, _, rfl, (box_set t2 _).trans rfl⟩, below_set t3 _ _ hlp _⟩
    · unfold doWrite; rw [if_pos h200]; rfl
    · unfold doWrite; rw [if_pos h200]; exact t1.setOther (a := ⟨p, 1, none⟩) t4 _
   ·
    go_simp; refine (copyOrder_any x ad c _ hx (HX.out.below (Below.refl _ _).drew)).mono ?_; rintro e wS ⟨adS, cS, GS, rfl, hGS, hbS0⟩; have hbS : Below W.heap.size W wS := (Below.refl _ _).drew.trans hbS0; have zS : W.heap.size ≤ wS.heap.size := hbS.size; have oS : wS.cell? ⟨p, 1, none⟩ = some (.slice ao B.orders.length co) := (hbS.cell (p := ⟨p, 1, none⟩) zp).trans o1; have HY : Hid ((0 < x.secs.length → adS = some ⟨GS, 0, none⟩ ∧ W.heap.size ≤ GS ∧ Pre wS GS 3 x.secs.length (iV x.secs)) ∧ Below W.heap.size W wS) := ⟨hGS, hbS⟩; refine hK _ _ ?_; clear hK Kx hGS hbS hbS0; refine wpAny_ready (rs := [4, 7]) (by kernel_rfl) (by simp) ?_; refine AllReady.cons rfl (fun Kx hK => ?_) (AllReady.cons rfl (fun Kx hK => ?_) (AllReady.nil))
    ·
     go_simp; refine hK _ _ ?_; clear hK Kx; refine ra1 7 rfl (fun Kx hK => ?_); go_simp; refine hK _ _ ?_; clear hK Kx; refine ra1 8 rfl (fun Kx hK => ?_); have S4 : Below W.heap.size W (wS.alloc (.cells #[.string x.holder, .int .i64 x.kind, .slice adS x.secs.length cS, .int .i64 x.state] 41)) := HY.out.2.alloc (by omega) _; have R4 := HR.out.1.below S4
     have n4 : ∀ j u', (cellsOf x adS cS)[j]? = some u' → (wS.alloc (.cells #[.string x.holder, .int .i64 x.kind, .slice adS x.secs.length cS, .int .i64 x.state] 41)).cell? ((⟨wS.heap.size, 0, none⟩ : Addr).add j) = some u' := by
      have hn := Deep.blk_alloc_new wS (.cells #[.string x.holder, .int .i64 x.kind, .slice adS x.secs.length cS, .int .i64 x.state] 41); intro j u' hu; rw [add0]; refine cell_of_box hn ?_; rw [← Array.getElem?_toList]; exact hu
     have hrow : (wS.alloc (.cells #[.string x.holder, .int .i64 x.kind, .slice adS x.secs.length cS, .int .i64 x.state] 41)).ownsRow lo 41 4 (.slice ao B.orders.length co) B.orders.length (flat (bX B) K.sa K.sc B.orders.length) := by
      obtain ⟨u, _, _, e, q, _⟩ := R4.row; simp only [Value.agg.injEq, Array.mk.injEq, List.cons.injEq, and_true] at e; obtain ⟨-, rfl, -, -⟩ := e; exact q.row
     have z4 : (wS.alloc (.cells #[.string x.holder, .int .i64 x.kind, .slice adS x.secs.length cS, .int .i64 x.state] 41)).heap.size = wS.heap.size + 1 := alloc_size _ _; refine wp_append_row _ _ 34 rfl lo 41 io _ 4 56 Tryz.underlying34 hio zo0 zo1 zo2 rfl (by decide) (.slice ao B.orders.length co) B.orders.length (flat (bX B) K.sa K.sc B.orders.length) rfl hrow ⟨wS.heap.size, 0, none⟩ 1 1 (cellsOf x adS cS) rfl rfl n4 ?_ (by unfold maxLen; omega) (by omega) (by rw [z4]; omega) ?_
     ·
      intro x hx; simp only [cellsOf, List.mem_cons, List.not_mem_nil, or_false] at hx
      rcases hx with rfl | rfl | rfl | rfl <;> rfl
     intro vU wU hownU hgU _ hbU; have big : ∀ b, bookBlocks B K b → b < W.heap.size := fun b hb => HR.out.1.own.blocks_lt hb
     obtain ⟨K', adU, cU, rfl, hOwn, hblk⟩ := ownBook_push R4 (x := x) (GS := GS) (adS := adS) (cS := cS) (fun q => by
      obtain ⟨t1, t2, t3⟩ := HY.out.1 q
      exact ⟨t1, t3.of_block (Deep.blk_alloc_lt _ _ _ t3.lt), by omega, fun b hb => by have := big b hb; omega⟩) hownU hgU hbU
     have pne : (Value.slice ao B.orders.length co).ownBlock ≠ some p := HR.out.2.2.1; have y2U : wU.heap[p]? = some (.cells #[.int .i64 B.n, .slice ao B.orders.length co, .slice al B.locked.length cl, .slice ac B.occ.length cc] 37 (0, 0)) := (hgU.block _ (by rw [z4]; omega) (fun e => pne e.symm)).trans ((S4.block _ zp).trans HR.out.2.1); have lowU : Below lo (wS.alloc (.cells #[.string x.holder, .int .i64 x.kind, .slice adS x.secs.length cS, .int .i64 x.state] 41)) wU := grown_below hgU (fun g hg => (owns_lt hrow hg).1) (by rw [z4]; omega)
     have HU : Hid (OwnBook wU lo (.agg #[.int .i64 B.n, .slice adU (B.orders.length + 1) cU, .slice al B.locked.length cl, .slice ac B.occ.length cc]) (addOrd B x) K' ∧ wU.heap[p]? = some (.cells #[.int .i64 B.n, .slice ao B.orders.length co, .slice al B.locked.length cl, .slice ac B.occ.length cc] 37 (0, 0)) ∧ Below lo w wU ∧ (∀ b, bookBlocks (addOrd B x) K' b → b ≠ p)) :=
      ⟨hOwn, y2U, (HR.out.2.2.2.1.trans (S4.mono zlo)).trans lowU, fun b hb => by
       rcases hblk b hb with h | ⟨q, h⟩ | h
       · exact HR.out.2.2.2.2 b h
       · have := (HY.out.1 q).2.1; omega
       · omega⟩
     have oU : wU.cell? ⟨p, 1, none⟩ = some (.slice ao B.orders.length co) := cell_of_box y2U rfl; have fU : wU.frozen? ⟨p, 1, none⟩ = false := frozen_of_box y2U; refine hK _ _ ?_; clear hK Kx hownU hgU hbU z4 y2U HY HR S4 R4 n4 oS hrow big hOwn hblk pne lowU o1; refine ta 9 rfl ?_; refine ta 10 rfl ?_; refine ra1 11 rfl (fun Kx hK => ?_); go_simp; refine hK _ _ ?_; clear hK Kx oU fU; refine wpAny_end (by kernel_rfl) ?_; go_simp; go_wp2; go_ret; obtain ⟨t1, t2, t3, t4⟩ := HU.out; refine ⟨none, _, K', rfl, Or.inl rfl, ?_, ?_, ⟨_, _, _, _, rfl, (box_set t2 _).trans rfl⟩, below_set t3 _ _ hlp _⟩
     · unfold doWrite; rw [if_pos h200]; rfl
     · unfold doWrite; rw [if_pos h200]; exact t1.setOther (a := ⟨p, 1, none⟩) t4 _
    ·
     go_simp; refine hK _ _ ?_; clear hK Kx; refine ra1 4 rfl (fun Kx hK => ?_); have oS4 : (wS.alloc (.cells #[.string x.holder, .int .i64 x.kind, .slice adS x.secs.length cS, .int .i64 x.state] 41)).cell? ⟨p, 1, none⟩ = some (.slice ao B.orders.length co) := by simp [oS, World.cell?_alloc_some]
     go_simp; refine hK _ _ ?_; clear hK Kx; clear oS4; refine ra1 8 rfl (fun Kx hK => ?_); have S4 : Below W.heap.size W (wS.alloc (.cells #[.string x.holder, .int .i64 x.kind, .slice adS x.secs.length cS, .int .i64 x.state] 41)) := HY.out.2.alloc (by omega) _; have R4 := HR.out.1.below S4
     have n4 : ∀ j u', (cellsOf x adS cS)[j]? = some u' → (wS.alloc (.cells #[.string x.holder, .int .i64 x.kind, .slice adS x.secs.length cS, .int .i64 x.state] 41)).cell? ((⟨wS.heap.size, 0, none⟩ : Addr).add j) = some u' := by
      have hn := Deep.blk_alloc_new wS (.cells #[.string x.holder, .int .i64 x.kind, .slice adS x.secs.length cS, .int .i64 x.state] 41); intro j u' hu; rw [add0]; refine cell_of_box hn ?_; rw [← Array.getElem?_toList]; exact hu
     have hrow : (wS.alloc (.cells #[.string x.holder, .int .i64 x.kind, .slice adS x.secs.length cS, .int .i64 x.state] 41)).ownsRow lo 41 4 (.slice ao B.orders.length co) B.orders.length (flat (bX B) K.sa K.sc B.orders.length) := by
      obtain ⟨u, _, _, e, q, _⟩ := R4.row; simp only [Value.agg.injEq, Array.mk.injEq, List.cons.injEq, and_true] at e; obtain ⟨-, rfl, -, -⟩ := e; exact q.row
     have z4 : (wS.alloc (.cells #[.string x.holder, .int .i64 x.kind, .slice adS x.secs.length cS, .int .i64 x.state] 41)).heap.size = wS.heap.size + 1 := alloc_size _ _; refine wp_append_row _ _ 34 rfl lo 41 io _ 4 56 Tryz.underlying34 hio zo0 zo1 zo2 rfl (by decide) (.slice ao B.orders.length co) B.orders.length (flat (bX B) K.sa K.sc B.orders.length) rfl hrow ⟨wS.heap.size, 0, none⟩ 1 1 (cellsOf x adS cS) rfl rfl n4 ?_ (by unfold maxLen; omega) (by omega) (by rw [z4]; omega) ?_
     ·
      intro x hx; simp only [cellsOf, List.mem_cons, List.not_mem_nil, or_false] at hx
      rcases hx with rfl | rfl | rfl | rfl <;> rfl
     intro vU wU hownU hgU _ hbU; have big : ∀ b, bookBlocks B K b → b < W.heap.size := fun b hb => HR.out.1.own.blocks_lt hb
     obtain ⟨K', adU, cU, rfl, hOwn, hblk⟩ := ownBook_push R4 (x := x) (GS := GS) (adS := adS) (cS := cS) (fun q => by
      obtain ⟨t1, t2, t3⟩ := HY.out.1 q
      exact ⟨t1, t3.of_block (Deep.blk_alloc_lt _ _ _ t3.lt), by omega, fun b hb => by have := big b hb; omega⟩) hownU hgU hbU
     have pne : (Value.slice ao B.orders.length co).ownBlock ≠ some p := HR.out.2.2.1; have y2U : wU.heap[p]? = some (.cells #[.int .i64 B.n, .slice ao B.orders.length co, .slice al B.locked.length cl, .slice ac B.occ.length cc] 37 (0, 0)) := (hgU.block _ (by rw [z4]; omega) (fun e => pne e.symm)).trans ((S4.block _ zp).trans HR.out.2.1); have lowU : Below lo (wS.alloc (.cells #[.string x.holder, .int .i64 x.kind, .slice adS x.secs.length cS, .int .i64 x.state] 41)) wU := grown_below hgU (fun g hg => (owns_lt hrow hg).1) (by rw [z4]; omega)
     have HU : Hid (OwnBook wU lo (.agg #[.int .i64 B.n, .slice adU (B.orders.length + 1) cU, .slice al B.locked.length cl, .slice ac B.occ.length cc]) (addOrd B x) K' ∧ wU.heap[p]? = some (.cells #[.int .i64 B.n, .slice ao B.orders.length co, .slice al B.locked.length cl, .slice ac B.occ.length cc] 37 (0, 0)) ∧ Below lo w wU ∧ (∀ b, bookBlocks (addOrd B x) K' b → b ≠ p)) :=
      ⟨hOwn, y2U, (HR.out.2.2.2.1.trans (S4.mono zlo)).trans lowU, fun b hb => by
       rcases hblk b hb with h | ⟨q, h⟩ | h
       · exact HR.out.2.2.2.2 b h
       · have := (HY.out.1 q).2.1; omega
       · omega⟩
     have oU : wU.cell? ⟨p, 1, none⟩ = some (.slice ao B.orders.length co) := cell_of_box y2U rfl; have fU : wU.frozen? ⟨p, 1, none⟩ = false := frozen_of_box y2U; refine hK _ _ ?_; clear hK Kx hownU hgU hbU z4 y2U HY HR S4 R4 n4 oS hrow big hOwn hblk pne lowU o1; refine ta 9 rfl ?_; refine ta 10 rfl ?_; refine ra1 11 rfl (fun Kx hK => ?_); go_simp; refine hK _ _ ?_; clear hK Kx oU fU; refine wpAny_end (by kernel_rfl) ?_; go_simp; go_wp2; go_ret; obtain ⟨t1, t2, t3, t4⟩ := HU.out; refine ⟨none, _, K', rfl, Or.inl rfl, ?_, ?_, ⟨_, _, _, _, rfl, (box_set t2 _).trans rfl⟩, below_set t3 _ _ hlp _⟩
     · unfold doWrite; rw [if_pos h200]; rfl
     · unfold doWrite; rw [if_pos h200]; exact t1.setOther (a := ⟨p, 1, none⟩) t4 _
end Go.Proofs.YtdlaekjofgbjcaaGreatDoor
/-
 What the type switch finds: closed facts. Mine, by program (wip/ido5.py), by template (wip/gen.py).
-/
namespace Go.Proofs.YtdlaekjofgbjcaaGreatDoor
open Go.RowKit
theorem Tryz.as_writing_writing (a b c d : Value) (w : World) : (Instr.typeAssert (.iface 134 (.agg #[a, b, c, d])) 111 134 true).run Tryz.prog w = .ok (.tuple #[.agg #[a, b, c, d], .bool true]) w := by kernel_rfl
theorem Tryz.as_giving_writing (a : Value) (w : World) : (Instr.typeAssert (.iface 139 (.agg #[a])) 111 134 true).run Tryz.prog w = .ok (.tuple #[.agg #[.string ByteArray.empty, .int .i64 0, .slice none 0 0, .int .i64 0], .bool false]) w := by kernel_rfl
theorem Tryz.as_giving_giving (a : Value) (w : World) : (Instr.typeAssert (.iface 139 (.agg #[a])) 111 139 true).run Tryz.prog w = .ok (.tuple #[.agg #[a], .bool true]) w := by kernel_rfl
theorem Tryz.as_repeating_writing (a b c : Value) (w : World) : (Instr.typeAssert (.iface 142 (.agg #[a, b, c])) 111 134 true).run Tryz.prog w = .ok (.tuple #[.agg #[.string ByteArray.empty, .int .i64 0, .slice none 0 0, .int .i64 0], .bool false]) w := by kernel_rfl
theorem Tryz.as_repeating_giving (a b c : Value) (w : World) : (Instr.typeAssert (.iface 142 (.agg #[a, b, c])) 111 139 true).run Tryz.prog w = .ok (.tuple #[.agg #[.int .i64 0], .bool false]) w := by kernel_rfl
theorem Tryz.as_repeating_repeating (a b c : Value) (w : World) : (Instr.typeAssert (.iface 142 (.agg #[a, b, c])) 111 142 true).run Tryz.prog w = .ok (.tuple #[.agg #[a, b, c], .bool true]) w := by kernel_rfl
theorem Tryz.as_givingBack_writing (a b : Value) (w : World) : (Instr.typeAssert (.iface 145 (.agg #[a, b])) 111 134 true).run Tryz.prog w = .ok (.tuple #[.agg #[.string ByteArray.empty, .int .i64 0, .slice none 0 0, .int .i64 0], .bool false]) w := by kernel_rfl
theorem Tryz.as_givingBack_giving (a b : Value) (w : World) : (Instr.typeAssert (.iface 145 (.agg #[a, b])) 111 139 true).run Tryz.prog w = .ok (.tuple #[.agg #[.int .i64 0], .bool false]) w := by kernel_rfl
theorem Tryz.as_givingBack_repeating (a b : Value) (w : World) : (Instr.typeAssert (.iface 145 (.agg #[a, b])) 111 142 true).run Tryz.prog w = .ok (.tuple #[.agg #[.int .i64 0, .string ByteArray.empty, .string ByteArray.empty], .bool false]) w := by kernel_rfl
theorem Tryz.as_givingBack_givingBack (a b : Value) (w : World) : (Instr.typeAssert (.iface 145 (.agg #[a, b])) 111 145 true).run Tryz.prog w = .ok (.tuple #[.agg #[a, b], .bool true]) w := by kernel_rfl
theorem Tryz.as_cancelling_writing (a : Value) (w : World) : (Instr.typeAssert (.iface 147 (.agg #[a])) 111 134 true).run Tryz.prog w = .ok (.tuple #[.agg #[.string ByteArray.empty, .int .i64 0, .slice none 0 0, .int .i64 0], .bool false]) w := by kernel_rfl
theorem Tryz.as_cancelling_giving (a : Value) (w : World) : (Instr.typeAssert (.iface 147 (.agg #[a])) 111 139 true).run Tryz.prog w = .ok (.tuple #[.agg #[.int .i64 0], .bool false]) w := by kernel_rfl
theorem Tryz.as_cancelling_repeating (a : Value) (w : World) : (Instr.typeAssert (.iface 147 (.agg #[a])) 111 142 true).run Tryz.prog w = .ok (.tuple #[.agg #[.int .i64 0, .string ByteArray.empty, .string ByteArray.empty], .bool false]) w := by kernel_rfl
theorem Tryz.as_cancelling_givingBack (a : Value) (w : World) : (Instr.typeAssert (.iface 147 (.agg #[a])) 111 145 true).run Tryz.prog w = .ok (.tuple #[.agg #[.int .i64 0, .string ByteArray.empty], .bool false]) w := by kernel_rfl
theorem Tryz.as_cancelling_cancelling (a : Value) (w : World) : (Instr.typeAssert (.iface 147 (.agg #[a])) 111 147 true).run Tryz.prog w = .ok (.tuple #[.agg #[a], .bool true]) w := by kernel_rfl
theorem Tryz.as_locking_writing (a : Value) (w : World) : (Instr.typeAssert (.iface 152 (.agg #[a])) 111 134 true).run Tryz.prog w = .ok (.tuple #[.agg #[.string ByteArray.empty, .int .i64 0, .slice none 0 0, .int .i64 0], .bool false]) w := by kernel_rfl
theorem Tryz.as_locking_giving (a : Value) (w : World) : (Instr.typeAssert (.iface 152 (.agg #[a])) 111 139 true).run Tryz.prog w = .ok (.tuple #[.agg #[.int .i64 0], .bool false]) w := by kernel_rfl
theorem Tryz.as_locking_repeating (a : Value) (w : World) : (Instr.typeAssert (.iface 152 (.agg #[a])) 111 142 true).run Tryz.prog w = .ok (.tuple #[.agg #[.int .i64 0, .string ByteArray.empty, .string ByteArray.empty], .bool false]) w := by kernel_rfl
theorem Tryz.as_locking_givingBack (a : Value) (w : World) : (Instr.typeAssert (.iface 152 (.agg #[a])) 111 145 true).run Tryz.prog w = .ok (.tuple #[.agg #[.int .i64 0, .string ByteArray.empty], .bool false]) w := by kernel_rfl
theorem Tryz.as_locking_cancelling (a : Value) (w : World) : (Instr.typeAssert (.iface 152 (.agg #[a])) 111 147 true).run Tryz.prog w = .ok (.tuple #[.agg #[.int .i64 0], .bool false]) w := by kernel_rfl
theorem Tryz.as_locking_locking (a : Value) (w : World) : (Instr.typeAssert (.iface 152 (.agg #[a])) 111 152 true).run Tryz.prog w = .ok (.tuple #[.agg #[a], .bool true]) w := by kernel_rfl
theorem Tryz.as_unlocking_writing (a : Value) (w : World) : (Instr.typeAssert (.iface 153 (.agg #[a])) 111 134 true).run Tryz.prog w = .ok (.tuple #[.agg #[.string ByteArray.empty, .int .i64 0, .slice none 0 0, .int .i64 0], .bool false]) w := by kernel_rfl
theorem Tryz.as_unlocking_giving (a : Value) (w : World) : (Instr.typeAssert (.iface 153 (.agg #[a])) 111 139 true).run Tryz.prog w = .ok (.tuple #[.agg #[.int .i64 0], .bool false]) w := by kernel_rfl
theorem Tryz.as_unlocking_repeating (a : Value) (w : World) : (Instr.typeAssert (.iface 153 (.agg #[a])) 111 142 true).run Tryz.prog w = .ok (.tuple #[.agg #[.int .i64 0, .string ByteArray.empty, .string ByteArray.empty], .bool false]) w := by kernel_rfl
theorem Tryz.as_unlocking_givingBack (a : Value) (w : World) : (Instr.typeAssert (.iface 153 (.agg #[a])) 111 145 true).run Tryz.prog w = .ok (.tuple #[.agg #[.int .i64 0, .string ByteArray.empty], .bool false]) w := by kernel_rfl
theorem Tryz.as_unlocking_cancelling (a : Value) (w : World) : (Instr.typeAssert (.iface 153 (.agg #[a])) 111 147 true).run Tryz.prog w = .ok (.tuple #[.agg #[.int .i64 0], .bool false]) w := by kernel_rfl
theorem Tryz.as_unlocking_locking (a : Value) (w : World) : (Instr.typeAssert (.iface 153 (.agg #[a])) 111 152 true).run Tryz.prog w = .ok (.tuple #[.agg #[.int .i64 0], .bool false]) w := by kernel_rfl
theorem Tryz.as_unlocking_unlocking (a : Value) (w : World) : (Instr.typeAssert (.iface 153 (.agg #[a])) 111 153 true).run Tryz.prog w = .ok (.tuple #[.agg #[a], .bool true]) w := by kernel_rfl
theorem Tryz.as_coming_writing (a : Value) (w : World) : (Instr.typeAssert (.iface 154 (.agg #[a])) 111 134 true).run Tryz.prog w = .ok (.tuple #[.agg #[.string ByteArray.empty, .int .i64 0, .slice none 0 0, .int .i64 0], .bool false]) w := by kernel_rfl
theorem Tryz.as_coming_giving (a : Value) (w : World) : (Instr.typeAssert (.iface 154 (.agg #[a])) 111 139 true).run Tryz.prog w = .ok (.tuple #[.agg #[.int .i64 0], .bool false]) w := by kernel_rfl
theorem Tryz.as_coming_repeating (a : Value) (w : World) : (Instr.typeAssert (.iface 154 (.agg #[a])) 111 142 true).run Tryz.prog w = .ok (.tuple #[.agg #[.int .i64 0, .string ByteArray.empty, .string ByteArray.empty], .bool false]) w := by kernel_rfl
theorem Tryz.as_coming_givingBack (a : Value) (w : World) : (Instr.typeAssert (.iface 154 (.agg #[a])) 111 145 true).run Tryz.prog w = .ok (.tuple #[.agg #[.int .i64 0, .string ByteArray.empty], .bool false]) w := by kernel_rfl
theorem Tryz.as_coming_cancelling (a : Value) (w : World) : (Instr.typeAssert (.iface 154 (.agg #[a])) 111 147 true).run Tryz.prog w = .ok (.tuple #[.agg #[.int .i64 0], .bool false]) w := by kernel_rfl
theorem Tryz.as_coming_locking (a : Value) (w : World) : (Instr.typeAssert (.iface 154 (.agg #[a])) 111 152 true).run Tryz.prog w = .ok (.tuple #[.agg #[.int .i64 0], .bool false]) w := by kernel_rfl
theorem Tryz.as_coming_unlocking (a : Value) (w : World) : (Instr.typeAssert (.iface 154 (.agg #[a])) 111 153 true).run Tryz.prog w = .ok (.tuple #[.agg #[.int .i64 0], .bool false]) w := by kernel_rfl
theorem Tryz.as_coming_coming (a : Value) (w : World) : (Instr.typeAssert (.iface 154 (.agg #[a])) 111 154 true).run Tryz.prog w = .ok (.tuple #[.agg #[a], .bool true]) w := by kernel_rfl
theorem Tryz.as_leaving_writing (a : Value) (w : World) : (Instr.typeAssert (.iface 155 (.agg #[a])) 111 134 true).run Tryz.prog w = .ok (.tuple #[.agg #[.string ByteArray.empty, .int .i64 0, .slice none 0 0, .int .i64 0], .bool false]) w := by kernel_rfl
theorem Tryz.as_leaving_giving (a : Value) (w : World) : (Instr.typeAssert (.iface 155 (.agg #[a])) 111 139 true).run Tryz.prog w = .ok (.tuple #[.agg #[.int .i64 0], .bool false]) w := by kernel_rfl
theorem Tryz.as_leaving_repeating (a : Value) (w : World) : (Instr.typeAssert (.iface 155 (.agg #[a])) 111 142 true).run Tryz.prog w = .ok (.tuple #[.agg #[.int .i64 0, .string ByteArray.empty, .string ByteArray.empty], .bool false]) w := by kernel_rfl
theorem Tryz.as_leaving_givingBack (a : Value) (w : World) : (Instr.typeAssert (.iface 155 (.agg #[a])) 111 145 true).run Tryz.prog w = .ok (.tuple #[.agg #[.int .i64 0, .string ByteArray.empty], .bool false]) w := by kernel_rfl
theorem Tryz.as_leaving_cancelling (a : Value) (w : World) : (Instr.typeAssert (.iface 155 (.agg #[a])) 111 147 true).run Tryz.prog w = .ok (.tuple #[.agg #[.int .i64 0], .bool false]) w := by kernel_rfl
theorem Tryz.as_leaving_locking (a : Value) (w : World) : (Instr.typeAssert (.iface 155 (.agg #[a])) 111 152 true).run Tryz.prog w = .ok (.tuple #[.agg #[.int .i64 0], .bool false]) w := by kernel_rfl
theorem Tryz.as_leaving_unlocking (a : Value) (w : World) : (Instr.typeAssert (.iface 155 (.agg #[a])) 111 153 true).run Tryz.prog w = .ok (.tuple #[.agg #[.int .i64 0], .bool false]) w := by kernel_rfl
theorem Tryz.as_leaving_coming (a : Value) (w : World) : (Instr.typeAssert (.iface 155 (.agg #[a])) 111 154 true).run Tryz.prog w = .ok (.tuple #[.agg #[.int .i64 0], .bool false]) w := by kernel_rfl
theorem Tryz.as_leaving_leaving (a : Value) (w : World) : (Instr.typeAssert (.iface 155 (.agg #[a])) 111 155 true).run Tryz.prog w = .ok (.tuple #[.agg #[a], .bool true]) w := by kernel_rfl
end Go.Proofs.YtdlaekjofgbjcaaGreatDoor
/-
 The contract of impl.happen. Mine, by program (wip/ido5.py), by template (wip/gen.py).
-/
namespace Go.Proofs.YtdlaekjofgbjcaaGreatDoor
open Go.RowKit
structure HapPre (A : Nat → Addr) (w : World) (lo p : Nat) (v : Value) (B : Bk) (K : Blk) : Prop where
 errs : Errs w A
 tab : Lib.TabIs Tryz.prog w "internal/strconv.uint64pow10" .u64 Lib.pow10Tab
 book : RowBook w lo v B K
 box : BoxAt w p v
 np : ∀ b, bookBlocks B K b → b ≠ p
 lo_ : lo ≤ w.heap.size
 lp : lo ≤ p
 right : Right B
 sm : B.orders.length ≤ 1048576 ∧ ∀ i, i < B.orders.length → (bX B i).secs.length ≤ 1048576 ∧ (bX B i).holder.size ≤ 1048576
theorem BoxAt.below {w w' : World} {p : Nat} {v : Value} (h : BoxAt w p v) (hb : Below w.heap.size w w') : BoxAt w' p v := by
 obtain ⟨a, b, c, d, e, h⟩ := h; exact ⟨a, b, c, d, e, (hb.block _ (Array.getElem?_eq_some_iff.1 h).1).trans h⟩
theorem HapPre.below {A : Nat → Addr} {w w' : World} {lo p : Nat} {v : Value} {B : Bk} {K : Blk} (h : HapPre A w lo p v B K) (hb : Below w.heap.size w w') : HapPre A w' lo p v B K :=
 ⟨h.errs.below hb, tab_below h.tab hb, h.book.below hb, h.box.below hb, h.np, Nat.le_trans h.lo_ hb.size, h.lp, h.right, h.sm⟩
theorem RetY.from {A : Nat → Addr} {e : Ending} {w W w' : World} {lo p : Nat} {r : Int × Bk} (h : RetY A e W w' lo p r) (hb : Below w.heap.size w W) (hlo : lo ≤ w.heap.size) : RetY A e w w' lo p r := by
 obtain ⟨o, v, K, h1, h2, h3, h4, h5, h6⟩ := h; exact ⟨o, v, K, h1, h2, h3, h4, h5, (hb.mono hlo).trans h6⟩
theorem HapPre.shape {A : Nat → Addr} {w : World} {lo p : Nat} {v : Value} {B : Bk} {K : Blk} (h : HapPre A w lo p v B K) : ∃ ao co al cl ac cc, v = .agg #[.int .i64 B.n, .slice ao B.orders.length co, .slice al B.locked.length cl, .slice ac B.occ.length cc] ∧ w.heap[p]? = some (.cells #[.int .i64 B.n, .slice ao B.orders.length co, .slice al B.locked.length cl, .slice ac B.occ.length cc] 37 (0, 0)) ∧
  (0 < B.orders.length → ao = some ⟨K.G, 0, none⟩) ∧ (0 < B.locked.length → al = some ⟨K.L, 0, none⟩) ∧ (0 < B.occ.length → ac = some ⟨K.C, 0, none⟩) := by
 obtain ⟨ao, co, al, cl, ac, cc, rfl, h1, h2, h3⟩ := h.book.own.shape; obtain ⟨a, b, c, d, e, hb⟩ := h.box; simp only [Value.agg.injEq, Array.mk.injEq, List.cons.injEq, and_true] at e; obtain ⟨rfl, rfl, rfl, rfl⟩ := e; exact ⟨ao, co, al, cl, ac, cc, rfl, hb, h1.head, h2.head, h3.head⟩
set_option maxHeartbeats 4000000 in
theorem happen_1 (A : Nat → Addr) (v : Value) (B : Bk) (K : Blk) (lo p : Nat) (E : Ev) (ad : Option Addr) (c : Nat) (w : World) (h : HapPre A w lo p v B K) (hok : EvOk B E) (ho : E.op = 1) (hes : E.secs.length ≤ 1048576) (G : Cells w ad E.secs.length (iV E.secs)) :
  Calls Tryz.prog 60 #[.pointer (some ⟨p, 0, none⟩), .iface 134 (.agg #[.string E.holder, .int .i64 E.kind, .slice ad E.secs.length c, .int .i64 1])] w fun e w' => RetY A e w w' lo p (doP B E) := by
 have B1 : Below w.heap.size w (w.alloc (.cells #[.string E.holder, .int .i64 E.kind, .slice ad E.secs.length c, .int .i64 1] 134)) := below1 _ _; have H1 := h.below B1; have HG : Hid (Cells w ad E.secs.length (iV E.secs) ∧ EvOk B E ∧ E.op = 1 ∧ lo ≤ w.heap.size) := ⟨G, hok, ho, h.lo_⟩; have as0 := Tryz.as_writing_writing (.string E.holder) (.int .i64 E.kind) (.slice ad E.secs.length c) (.int .i64 1); have CT := (writeOrd_any A v B K lo p (eOrd E) ad c (w.alloc (.cells #[.string E.holder, .int .i64 E.kind, .slice ad E.secs.length c, .int .i64 1] 134)) H1.errs H1.book H1.box H1.np H1.lo_ H1.lp H1.right.1.2.2.2 hes (HG.out.1.below B1)); have CY : Calls Tryz.prog 87 #[.pointer (some ⟨p, 0, none⟩), .agg #[.string E.holder, .int .i64 E.kind, .slice ad E.secs.length c, .int .i64 1]] (w.alloc (.cells #[.string E.holder, .int .i64 E.kind, .slice ad E.secs.length c, .int .i64 1] 134)) fun e w' => RetY A e w w' lo p (doP B E) := CT.mono (fun e w' q => by rw [doP_write hok ho]; exact RetY.from q B1 h.lo_); clear CT H1 h hok B1 G
 go_enter Tryz.func60, Tryz.ntmps60
 go_wp2_with (go_at_call 87; refine CY.mono ?_; rintro e w' ⟨o, v', K', rfl, q1, q2, q3, q4, q5⟩; have HQ : Hid (ErrOk o ∧ codeN o = (doP B E).1 ∧ OwnBook w' lo v' (doP B E).2 K' ∧ BoxAt w' p v' ∧ Below lo w w') := ⟨q1, q2, q3, q4, q5⟩; clear q1 q2 q3 q4 q5)
 go_ret; exact ⟨o, v', K', rfl, HQ.out.1, HQ.out.2.1, HQ.out.2.2.1, HQ.out.2.2.2.1, HQ.out.2.2.2.2⟩
set_option maxHeartbeats 4000000 in
theorem happen_2 (A : Nat → Addr) (v : Value) (B : Bk) (K : Blk) (lo p : Nat) (E : Ev) (ad : Option Addr) (_c : Nat) (w : World) (h : HapPre A w lo p v B K) (hok : EvOk B E) (ho : E.op = 2) (_hes : E.secs.length ≤ 1048576) (G : Cells w ad E.secs.length (iV E.secs)) :
  Calls Tryz.prog 60 #[.pointer (some ⟨p, 0, none⟩), .iface 139 (.agg #[.int .i64 E.of_])] w fun e w' => RetY A e w w' lo p (doP B E) := by
 have hin := (EvOk.at25 hok (Or.inl ho)).1; obtain ⟨m, hmo⟩ : ∃ m : Nat, E.of_ = (m : Int) := ⟨E.of_.toNat, by have := hin.1; omega⟩; have hm : m < B.orders.length := by have := hin.2; omega
 have hmt : E.of_.toNat = m := by omega
 have B1 : Below w.heap.size w (w.alloc (.cells #[.int .i64 E.of_] 139)) := below1 _ _; have H1 := h.below B1; have HG : Hid (Cells w ad E.secs.length (iV E.secs) ∧ EvOk B E ∧ E.op = 2 ∧ lo ≤ w.heap.size) := ⟨G, hok, ho, h.lo_⟩; have as0 := Tryz.as_giving_writing (.int .i64 E.of_); have as1 := Tryz.as_giving_giving (.int .i64 E.of_); have CT := (give_any A v B K lo p m (w.alloc (.cells #[.int .i64 E.of_] 139)) H1.errs H1.book.own H1.box H1.right hm); have CY : Calls Tryz.prog 88 #[.pointer (some ⟨p, 0, none⟩), .int .i64 (m : Int)] (w.alloc (.cells #[.int .i64 E.of_] 139)) fun e w' => RetY A e w w' lo p (doP B E) := CT.mono (fun e w' q => by rw [doP_give hok ho, hmt]; exact (q.toY H1.book.own H1.box H1.np H1.lo_).from B1 h.lo_); rw [← hmo] at CY; clear CT H1 h hok B1 G hmo hmt hin hm
 go_enter Tryz.func60, Tryz.ntmps60
 go_wp2_with (go_at_call 88; refine CY.mono ?_; rintro e w' ⟨o, v', K', rfl, q1, q2, q3, q4, q5⟩; have HQ : Hid (ErrOk o ∧ codeN o = (doP B E).1 ∧ OwnBook w' lo v' (doP B E).2 K' ∧ BoxAt w' p v' ∧ Below lo w w') := ⟨q1, q2, q3, q4, q5⟩; clear q1 q2 q3 q4 q5)
 go_ret; exact ⟨o, v', K', rfl, HQ.out.1, HQ.out.2.1, HQ.out.2.2.1, HQ.out.2.2.2.1, HQ.out.2.2.2.2⟩
set_option maxHeartbeats 4000000 in
theorem happen_3 (A : Nat → Addr) (v : Value) (B : Bk) (K : Blk) (lo p : Nat) (E : Ev) (ad : Option Addr) (_c : Nat) (w : World) (h : HapPre A w lo p v B K) (hok : EvOk B E) (ho : E.op = 3) (_hes : E.secs.length ≤ 1048576) (G : Cells w ad E.secs.length (iV E.secs)) :
  Calls Tryz.prog 60 #[.pointer (some ⟨p, 0, none⟩), .iface 142 (.agg #[.int .i64 E.of_, .string E.holder, .string E.text])] w fun e w' => RetY A e w w' lo p (doP B E) := by
 have hin := (EvOk.at3 hok ho).1; obtain ⟨m, hmo⟩ : ∃ m : Nat, E.of_ = (m : Int) := ⟨E.of_.toNat, by have := hin.1; omega⟩; have hm : m < B.orders.length := by have := hin.2; omega
 have hmt : E.of_.toNat = m := by omega
 have B1 : Below w.heap.size w (w.alloc (.cells #[.int .i64 E.of_, .string E.holder, .string E.text] 142)) := below1 _ _; have H1 := h.below B1; have HG : Hid (Cells w ad E.secs.length (iV E.secs) ∧ EvOk B E ∧ E.op = 3 ∧ lo ≤ w.heap.size) := ⟨G, hok, ho, h.lo_⟩; have as0 := Tryz.as_repeating_writing (.int .i64 E.of_) (.string E.holder) (.string E.text); have as1 := Tryz.as_repeating_giving (.int .i64 E.of_) (.string E.holder) (.string E.text); have as2 := Tryz.as_repeating_repeating (.int .i64 E.of_) (.string E.holder) (.string E.text); have CT := (repeat_any A v B K lo p m E.holder E.text (w.alloc (.cells #[.int .i64 E.of_, .string E.holder, .string E.text] 142)) H1.errs H1.tab H1.book.own H1.box H1.right hm H1.sm); have CY : Calls Tryz.prog 89 #[.pointer (some ⟨p, 0, none⟩), .agg #[.int .i64 (m : Int), .string E.holder, .string E.text]] (w.alloc (.cells #[.int .i64 E.of_, .string E.holder, .string E.text] 142)) fun e w' => RetY A e w w' lo p (doP B E) := CT.mono (fun e w' q => by rw [doP_repeat hok ho, hmt]; exact (q.toY H1.book.own H1.box H1.np H1.lo_).from B1 h.lo_); rw [← hmo] at CY; clear CT H1 h hok B1 G hmo hmt hin hm
 go_enter Tryz.func60, Tryz.ntmps60
 go_wp2_with (go_at_call 89; refine CY.mono ?_; rintro e w' ⟨o, v', K', rfl, q1, q2, q3, q4, q5⟩; have HQ : Hid (ErrOk o ∧ codeN o = (doP B E).1 ∧ OwnBook w' lo v' (doP B E).2 K' ∧ BoxAt w' p v' ∧ Below lo w w') := ⟨q1, q2, q3, q4, q5⟩; clear q1 q2 q3 q4 q5)
 go_ret; exact ⟨o, v', K', rfl, HQ.out.1, HQ.out.2.1, HQ.out.2.2.1, HQ.out.2.2.2.1, HQ.out.2.2.2.2⟩
set_option maxHeartbeats 4000000 in
theorem happen_4 (A : Nat → Addr) (v : Value) (B : Bk) (K : Blk) (lo p : Nat) (E : Ev) (ad : Option Addr) (_c : Nat) (w : World) (h : HapPre A w lo p v B K) (hok : EvOk B E) (ho : E.op = 4) (_hes : E.secs.length ≤ 1048576) (G : Cells w ad E.secs.length (iV E.secs)) :
  Calls Tryz.prog 60 #[.pointer (some ⟨p, 0, none⟩), .iface 145 (.agg #[.int .i64 E.of_, .string E.holder])] w fun e w' => RetY A e w w' lo p (doP B E) := by
 have hin := (EvOk.at4 hok ho).1; obtain ⟨m, hmo⟩ : ∃ m : Nat, E.of_ = (m : Int) := ⟨E.of_.toNat, by have := hin.1; omega⟩; have hm : m < B.orders.length := by have := hin.2; omega
 have hmt : E.of_.toNat = m := by omega
 have B1 : Below w.heap.size w (w.alloc (.cells #[.int .i64 E.of_, .string E.holder] 145)) := below1 _ _; have H1 := h.below B1; have HG : Hid (Cells w ad E.secs.length (iV E.secs) ∧ EvOk B E ∧ E.op = 4 ∧ lo ≤ w.heap.size) := ⟨G, hok, ho, h.lo_⟩; have as0 := Tryz.as_givingBack_writing (.int .i64 E.of_) (.string E.holder); have as1 := Tryz.as_givingBack_giving (.int .i64 E.of_) (.string E.holder); have as2 := Tryz.as_givingBack_repeating (.int .i64 E.of_) (.string E.holder); have as3 := Tryz.as_givingBack_givingBack (.int .i64 E.of_) (.string E.holder); obtain ⟨ao, co, al, cl, ac, cc, rfl, bx1, hao, hal, hac⟩ := H1.shape; obtain ⟨o0, o1, o2, o3⟩ := box_cells bx1; have bh1 : (w.alloc (.cells #[.int .i64 E.of_, .string E.holder] 145)).heap[w.heap.size]? = some (.cells #[.int .i64 E.of_, .string E.holder] 145 (0, 0)) := Deep.blk_alloc_new _ _; have n0 : (w.alloc (.cells #[.int .i64 E.of_, .string E.holder] 145)).cell? ⟨w.heap.size, 0, none⟩ = some (.int .i64 E.of_) := cell_of_box bh1 rfl; have n1 : (w.alloc (.cells #[.int .i64 E.of_, .string E.holder] 145)).cell? ⟨w.heap.size, 1, none⟩ = some (.string E.holder) := cell_of_box bh1 rfl; have bh2 := bh1; have zp : p < (w.alloc (.cells #[.int .i64 E.of_, .string E.holder] 145)).heap.size := (Array.getElem?_eq_some_iff.1 bx1).1; have bkw : ∀ b, bookBlocks B K b → b < w.heap.size := fun b hb => h.book.own.blocks_lt hb; have hG : ao = some ⟨K.G, 0, none⟩ := hao (by omega); subst hG; have hm0 : (0 : Int) ≤ (m : Int) := by omega
 have hm1 : (m : Int) < (B.orders.length : Int) := by omega
 obtain ⟨W, hW⟩ : ∃ W, W = (w.alloc (.cells #[.int .i64 E.of_, .string E.holder] 145)) := ⟨_, rfl⟩; have HW : Hid (W = (w.alloc (.cells #[.int .i64 E.of_, .string E.holder] 145)) ∧ E.of_ = (m : Int)) := ⟨hW, hmo⟩; clear hW hmo
 go_enter Tryz.func60, Tryz.ntmps60
 go_wp2; obtain ⟨hW, hmo⟩ := HW.out; clear HW; rw [← hW] at H1 B1 bx1 bh1 n0 n1 o1 zp ⊢; rw [hmo] at n0; clear bh2 o0 o2 o3 hao hal hac; have HP : Hid (HapPre A W lo p (.agg #[.int .i64 B.n, .slice (some ⟨K.G, 0, none⟩) B.orders.length co, .slice al B.locked.length cl, .slice ac B.occ.length cc]) B K ∧ Below w.heap.size w W ∧ W.heap[p]? = some (.cells #[.int .i64 B.n, .slice (some ⟨K.G, 0, none⟩) B.orders.length co, .slice al B.locked.length cl, .slice ac B.occ.length cc] 37 (0, 0)) ∧ W.heap[w.heap.size]? = some (.cells #[.int .i64 E.of_, .string E.holder] 145 (0, 0)) ∧ (∀ b, bookBlocks B K b → b < w.heap.size) ∧ E.of_ = (m : Int)) := ⟨H1, B1, bx1, bh1, bkw, hmo⟩; have zW : w.heap.size < W.heap.size := by rw [hW]; simp
 clear H1 B1 bx1 bh1 bkw hW h hok hin; rw [hmo]; clear hmo
 go_region_held3 (fun w' => w'.cell? ⟨p, 1, none⟩ = some (.slice (some ⟨K.G, 0, none⟩) B.orders.length co) ∧ w'.cell? ⟨w.heap.size, 0, none⟩ = some (.int .i64 (m : Int)) ∧ w'.cell? ⟨w.heap.size, 1, none⟩ = some (.string E.holder)) (go_keep)
  (first | (go_at_call 90; refine (giveBack_any A _ B K lo m E.holder _ (HP.out.1.errs.below (Below.refl _ _).drew) HP.out.1.book.own.drew hm).mono ?_; rintro e w' ⟨o, rfl, q1, q2, q3, hf0⟩; have hf := (Fr.of_below (S := bookBlocks B K) (Below.refl W.heap.size W).drew).trans hf0; have kB := hf.block _ zp (fun q => HP.out.1.np _ q rfl); have kH := hf.block _ zW (fun q => by have := HP.out.2.2.2.2.1 _ q; omega); have k1 : w'.cell? ⟨p, 1, none⟩ = some (.slice (some ⟨K.G, 0, none⟩) B.orders.length co) := (World.cell?_of_block kB).trans o1; have k2 : w'.cell? ⟨w.heap.size, 0, none⟩ = some (.int .i64 (m : Int)) := (World.cell?_of_block kH).trans n0; have k3 : w'.cell? ⟨w.heap.size, 1, none⟩ = some (.string E.holder) := (World.cell?_of_block kH).trans n1; have HQ : Hid (ErrOk o ∧ codeN o = (doBack B m E.holder).1 ∧ OwnBook w' lo _ (doBack B m E.holder).2 K ∧ Fr (bookBlocks B K) W w') := ⟨q1, q2, q3, hf⟩; clear q1 q2 q3 hf0 kB kH hf))
 go_wp2; go_ret; rw [doP_back HG.out.2.1 HG.out.2.2.1, hmt]; exact (RetX.toY ⟨o, rfl, HQ.out.1, HQ.out.2.1, HQ.out.2.2.1, HQ.out.2.2.2⟩ HP.out.1.book.own HP.out.1.box HP.out.1.np HP.out.1.lo_).from HP.out.2.1 HG.out.2.2.2
set_option maxHeartbeats 4000000 in
theorem happen_5 (A : Nat → Addr) (v : Value) (B : Bk) (K : Blk) (lo p : Nat) (E : Ev) (ad : Option Addr) (_c : Nat) (w : World) (h : HapPre A w lo p v B K) (hok : EvOk B E) (ho : E.op = 5) (_hes : E.secs.length ≤ 1048576) (G : Cells w ad E.secs.length (iV E.secs)) :
  Calls Tryz.prog 60 #[.pointer (some ⟨p, 0, none⟩), .iface 147 (.agg #[.int .i64 E.of_])] w fun e w' => RetY A e w w' lo p (doP B E) := by
 have hin := (EvOk.at25 hok (Or.inr ho)).1; obtain ⟨m, hmo⟩ : ∃ m : Nat, E.of_ = (m : Int) := ⟨E.of_.toNat, by have := hin.1; omega⟩; have hm : m < B.orders.length := by have := hin.2; omega
 have hmt : E.of_.toNat = m := by omega
 have B1 : Below w.heap.size w (w.alloc (.cells #[.int .i64 E.of_] 147)) := below1 _ _; have H1 := h.below B1; have HG : Hid (Cells w ad E.secs.length (iV E.secs) ∧ EvOk B E ∧ E.op = 5 ∧ lo ≤ w.heap.size) := ⟨G, hok, ho, h.lo_⟩; have as0 := Tryz.as_cancelling_writing (.int .i64 E.of_); have as1 := Tryz.as_cancelling_giving (.int .i64 E.of_); have as2 := Tryz.as_cancelling_repeating (.int .i64 E.of_); have as3 := Tryz.as_cancelling_givingBack (.int .i64 E.of_); have as4 := Tryz.as_cancelling_cancelling (.int .i64 E.of_); obtain ⟨ao, co, al, cl, ac, cc, rfl, bx1, hao, hal, hac⟩ := H1.shape; obtain ⟨o0, o1, o2, o3⟩ := box_cells bx1; have bh1 : (w.alloc (.cells #[.int .i64 E.of_] 147)).heap[w.heap.size]? = some (.cells #[.int .i64 E.of_] 147 (0, 0)) := Deep.blk_alloc_new _ _; have n0 : (w.alloc (.cells #[.int .i64 E.of_] 147)).cell? ⟨w.heap.size, 0, none⟩ = some (.int .i64 E.of_) := cell_of_box bh1 rfl; have bh2 := bh1; have zp : p < (w.alloc (.cells #[.int .i64 E.of_] 147)).heap.size := (Array.getElem?_eq_some_iff.1 bx1).1; have bkw : ∀ b, bookBlocks B K b → b < w.heap.size := fun b hb => h.book.own.blocks_lt hb; have hG : ao = some ⟨K.G, 0, none⟩ := hao (by omega); subst hG; have hm0 : (0 : Int) ≤ (m : Int) := by omega
 have hm1 : (m : Int) < (B.orders.length : Int) := by omega
 obtain ⟨W, hW⟩ : ∃ W, W = (w.alloc (.cells #[.int .i64 E.of_] 147)) := ⟨_, rfl⟩; have HW : Hid (W = (w.alloc (.cells #[.int .i64 E.of_] 147)) ∧ E.of_ = (m : Int)) := ⟨hW, hmo⟩; clear hW hmo
 go_enter Tryz.func60, Tryz.ntmps60
 go_wp2; obtain ⟨hW, hmo⟩ := HW.out; clear HW; rw [← hW] at H1 B1 bx1 bh1 n0 o1 zp ⊢; rw [hmo] at n0; clear bh2 o0 o2 o3 hao hal hac; have HP : Hid (HapPre A W lo p (.agg #[.int .i64 B.n, .slice (some ⟨K.G, 0, none⟩) B.orders.length co, .slice al B.locked.length cl, .slice ac B.occ.length cc]) B K ∧ Below w.heap.size w W ∧ W.heap[p]? = some (.cells #[.int .i64 B.n, .slice (some ⟨K.G, 0, none⟩) B.orders.length co, .slice al B.locked.length cl, .slice ac B.occ.length cc] 37 (0, 0)) ∧ W.heap[w.heap.size]? = some (.cells #[.int .i64 E.of_] 147 (0, 0)) ∧ (∀ b, bookBlocks B K b → b < w.heap.size) ∧ E.of_ = (m : Int)) := ⟨H1, B1, bx1, bh1, bkw, hmo⟩; have zW : w.heap.size < W.heap.size := by rw [hW]; simp
 clear H1 B1 bx1 bh1 bkw hW h hok hin; rw [hmo]; clear hmo
 go_region_held3 (fun w' => w'.cell? ⟨p, 1, none⟩ = some (.slice (some ⟨K.G, 0, none⟩) B.orders.length co) ∧ w'.cell? ⟨w.heap.size, 0, none⟩ = some (.int .i64 (m : Int))) (go_keep)
  (first | (go_at_call 91; refine (cancel_any A _ B K lo m _ (HP.out.1.errs.below (Below.refl _ _).drew) HP.out.1.book.own.drew hm).mono ?_; rintro e w' ⟨o, rfl, q1, q2, q3, hf0⟩; have hf := (Fr.of_below (S := bookBlocks B K) (Below.refl W.heap.size W).drew).trans hf0; have kB := hf.block _ zp (fun q => HP.out.1.np _ q rfl); have kH := hf.block _ zW (fun q => by have := HP.out.2.2.2.2.1 _ q; omega); have k1 : w'.cell? ⟨p, 1, none⟩ = some (.slice (some ⟨K.G, 0, none⟩) B.orders.length co) := (World.cell?_of_block kB).trans o1; have k2 : w'.cell? ⟨w.heap.size, 0, none⟩ = some (.int .i64 (m : Int)) := (World.cell?_of_block kH).trans n0; have HQ : Hid (ErrOk o ∧ codeN o = (doCancel B m).1 ∧ OwnBook w' lo _ (doCancel B m).2 K ∧ Fr (bookBlocks B K) W w') := ⟨q1, q2, q3, hf⟩; clear q1 q2 q3 hf0 kB kH hf))
 go_wp2; go_ret; rw [doP_cancel HG.out.2.1 HG.out.2.2.1, hmt]; exact (RetX.toY ⟨o, rfl, HQ.out.1, HQ.out.2.1, HQ.out.2.2.1, HQ.out.2.2.2⟩ HP.out.1.book.own HP.out.1.box HP.out.1.np HP.out.1.lo_).from HP.out.2.1 HG.out.2.2.2
set_option maxHeartbeats 4000000 in
theorem happen_6 (A : Nat → Addr) (v : Value) (B : Bk) (K : Blk) (lo p : Nat) (E : Ev) (ad : Option Addr) (_c : Nat) (w : World) (h : HapPre A w lo p v B K) (hok : EvOk B E) (ho : E.op = 6) (_hes : E.secs.length ≤ 1048576) (G : Cells w ad E.secs.length (iV E.secs)) :
  Calls Tryz.prog 60 #[.pointer (some ⟨p, 0, none⟩), .iface 152 (.agg #[.int .i64 E.of_])] w fun e w' => RetY A e w w' lo p (doP B E) := by
 have B1 : Below w.heap.size w (w.alloc (.cells #[.int .i64 E.of_] 152)) := below1 _ _; have H1 := h.below B1; have HG : Hid (Cells w ad E.secs.length (iV E.secs) ∧ EvOk B E ∧ E.op = 6 ∧ lo ≤ w.heap.size) := ⟨G, hok, ho, h.lo_⟩; have as0 := Tryz.as_locking_writing (.int .i64 E.of_); have as1 := Tryz.as_locking_giving (.int .i64 E.of_); have as2 := Tryz.as_locking_repeating (.int .i64 E.of_); have as3 := Tryz.as_locking_givingBack (.int .i64 E.of_); have as4 := Tryz.as_locking_cancelling (.int .i64 E.of_); have as5 := Tryz.as_locking_locking (.int .i64 E.of_); have CT := (lock_any A v B K lo p E.of_ (w.alloc (.cells #[.int .i64 E.of_] 152)) H1.errs H1.book.own H1.box H1.right (EvOk.at6 hok (show In E.op 6 9 by rw [ho]; exact ⟨by omega, by omega⟩)).1 H1.sm); have CY : Calls Tryz.prog 92 #[.pointer (some ⟨p, 0, none⟩), .int .i64 E.of_] (w.alloc (.cells #[.int .i64 E.of_] 152)) fun e w' => RetY A e w w' lo p (doP B E) := CT.mono (fun e w' q => by rw [doP_lock hok ho]; exact (q.toY H1.book.own H1.box H1.np H1.lo_).from B1 h.lo_); clear CT H1 h hok B1 G
 go_enter Tryz.func60, Tryz.ntmps60
 go_wp2_with (go_at_call 92; refine CY.mono ?_; rintro e w' ⟨o, v', K', rfl, q1, q2, q3, q4, q5⟩; have HQ : Hid (ErrOk o ∧ codeN o = (doP B E).1 ∧ OwnBook w' lo v' (doP B E).2 K' ∧ BoxAt w' p v' ∧ Below lo w w') := ⟨q1, q2, q3, q4, q5⟩; clear q1 q2 q3 q4 q5)
 go_ret; exact ⟨o, v', K', rfl, HQ.out.1, HQ.out.2.1, HQ.out.2.2.1, HQ.out.2.2.2.1, HQ.out.2.2.2.2⟩
set_option maxHeartbeats 4000000 in
theorem happen_7 (A : Nat → Addr) (v : Value) (B : Bk) (K : Blk) (lo p : Nat) (E : Ev) (ad : Option Addr) (_c : Nat) (w : World) (h : HapPre A w lo p v B K) (hok : EvOk B E) (ho : E.op = 7) (_hes : E.secs.length ≤ 1048576) (G : Cells w ad E.secs.length (iV E.secs)) :
  Calls Tryz.prog 60 #[.pointer (some ⟨p, 0, none⟩), .iface 153 (.agg #[.int .i64 E.of_])] w fun e w' => RetY A e w w' lo p (doP B E) := by
 have hin := (EvOk.at6 hok (show In E.op 6 9 by rw [ho]; exact ⟨by omega, by omega⟩)).1; obtain ⟨m, hmo⟩ : ∃ m : Nat, E.of_ = (m : Int) := ⟨E.of_.toNat, by have := hin.1; omega⟩; have hm : m < B.locked.length := by have := hin.2; have := h.right.1.2.1; omega
 have hmt : E.of_.toNat = m := by omega
 have hm0 : (0 : Int) ≤ (m : Int) := by omega
 have hm1 : (m : Int) < (B.locked.length : Int) := by omega
 have B1 : Below w.heap.size w (w.alloc (.cells #[.int .i64 E.of_] 153)) := below1 _ _; have H1 := h.below B1; have HG : Hid (Cells w ad E.secs.length (iV E.secs) ∧ EvOk B E ∧ E.op = 7 ∧ lo ≤ w.heap.size) := ⟨G, hok, ho, h.lo_⟩; have as0 := Tryz.as_unlocking_writing (.int .i64 E.of_); have as1 := Tryz.as_unlocking_giving (.int .i64 E.of_); have as2 := Tryz.as_unlocking_repeating (.int .i64 E.of_); have as3 := Tryz.as_unlocking_givingBack (.int .i64 E.of_); have as4 := Tryz.as_unlocking_cancelling (.int .i64 E.of_); have as5 := Tryz.as_unlocking_locking (.int .i64 E.of_); have as6 := Tryz.as_unlocking_unlocking (.int .i64 E.of_); obtain ⟨ao, co, al, cl, ac, cc, rfl, bx1, hao, hal, hac⟩ := H1.shape; obtain ⟨o0, o1, o2, o3⟩ := box_cells bx1; have bh1 : (w.alloc (.cells #[.int .i64 E.of_] 153)).heap[w.heap.size]? = some (.cells #[.int .i64 E.of_] 153 (0, 0)) := Deep.blk_alloc_new _ _; have n0 : (w.alloc (.cells #[.int .i64 E.of_] 153)).cell? ⟨w.heap.size, 0, none⟩ = some (.int .i64 E.of_) := cell_of_box bh1 rfl; have bh2 := bh1; have zp : p < (w.alloc (.cells #[.int .i64 E.of_] 153)).heap.size := (Array.getElem?_eq_some_iff.1 bx1).1; have bkw : ∀ b, bookBlocks B K b → b < w.heap.size := fun b hb => h.book.own.blocks_lt hb; have hV : al = some ⟨K.L, 0, none⟩ := hal (by omega); subst hV; obtain ⟨W, hW⟩ : ∃ W, W = (w.alloc (.cells #[.int .i64 E.of_] 153)) := ⟨_, rfl⟩; have HW : Hid (W = (w.alloc (.cells #[.int .i64 E.of_] 153)) ∧ E.of_ = (m : Int)) := ⟨hW, hmo⟩; clear hW hmo
 go_enter Tryz.func60, Tryz.ntmps60
 go_wp2; obtain ⟨hW, hmo⟩ := HW.out; clear HW; rw [← hW] at H1 B1 bx1 bh1 n0 o2 zp ⊢; rw [hmo] at n0; clear bh2 o0 o1 o3; obtain ⟨_, _, _, _, _, _, ev, -, h2, h3⟩ := H1.book.own.shape; simp only [Value.agg.injEq, Array.mk.injEq, List.cons.injEq, Value.slice.injEq, and_true, true_and] at ev; obtain ⟨⟨rfl, rfl⟩, ⟨rfl, rfl⟩, ⟨rfl, rfl⟩⟩ := ev; have l1 : W.cell? ⟨K.L, m, none⟩ = some (.bool (B.locked.getD m false)) := (h2.row (by omega)).cell hm; have l2 : W.frozen? ⟨K.L, m, none⟩ = false := (h2.row (by omega)).frozen m; have hbk : bookBlocks B K K.L := Or.inr (Or.inl ⟨by omega, rfl⟩); have ne1 : K.L ≠ p := H1.np _ hbk; have ne2 : K.L ≠ w.heap.size := by have := bkw _ hbk; omega
 have HP : Hid (HapPre A W lo p _ B K ∧ Below w.heap.size w W ∧ bookBlocks B K K.L) := ⟨H1, B1, hbk⟩; clear bx1 bh1 bkw hW hok hin h2 h3 hbk H1 B1; rw [hmo]; clear hmo
 go_region_held3 (fun w' => w'.cell? ⟨p, 2, none⟩ = some (.slice (some ⟨K.L, 0, none⟩) B.locked.length cl) ∧ w'.cell? ⟨w.heap.size, 0, none⟩ = some (.int .i64 (m : Int))) (go_keep) (fail)
 go_wp2; go_ret; rw [doP_unlock HG.out.2.1 HG.out.2.2.1, hmt]; exact (RetX.toY (K := K) (B := B) ⟨none, rfl, Or.inl rfl, rfl, HP.out.1.book.own.drew.setLock hm false, (Fr.of_below (S := bookBlocks B K) (Below.refl W.heap.size W).drew).setCell (p := ⟨K.L, m, none⟩) HP.out.2.2 _⟩ HP.out.1.book.own HP.out.1.box HP.out.1.np HP.out.1.lo_).from HP.out.2.1 HG.out.2.2.2
set_option maxHeartbeats 4000000 in
theorem happen_8 (A : Nat → Addr) (v : Value) (B : Bk) (K : Blk) (lo p : Nat) (E : Ev) (ad : Option Addr) (_c : Nat) (w : World) (h : HapPre A w lo p v B K) (hok : EvOk B E) (ho : E.op = 8) (_hes : E.secs.length ≤ 1048576) (G : Cells w ad E.secs.length (iV E.secs)) :
  Calls Tryz.prog 60 #[.pointer (some ⟨p, 0, none⟩), .iface 154 (.agg #[.int .i64 E.of_])] w fun e w' => RetY A e w w' lo p (doP B E) := by
 have hin := (EvOk.at6 hok (show In E.op 6 9 by rw [ho]; exact ⟨by omega, by omega⟩)).1; obtain ⟨m, hmo⟩ : ∃ m : Nat, E.of_ = (m : Int) := ⟨E.of_.toNat, by have := hin.1; omega⟩; have hm : m < B.occ.length := by have := hin.2; have := h.right.1.2.2.1; omega
 have hmt : E.of_.toNat = m := by omega
 have hm0 : (0 : Int) ≤ (m : Int) := by omega
 have hm1 : (m : Int) < (B.occ.length : Int) := by omega
 have B1 : Below w.heap.size w (w.alloc (.cells #[.int .i64 E.of_] 154)) := below1 _ _; have H1 := h.below B1; have HG : Hid (Cells w ad E.secs.length (iV E.secs) ∧ EvOk B E ∧ E.op = 8 ∧ lo ≤ w.heap.size) := ⟨G, hok, ho, h.lo_⟩; have as0 := Tryz.as_coming_writing (.int .i64 E.of_); have as1 := Tryz.as_coming_giving (.int .i64 E.of_); have as2 := Tryz.as_coming_repeating (.int .i64 E.of_); have as3 := Tryz.as_coming_givingBack (.int .i64 E.of_); have as4 := Tryz.as_coming_cancelling (.int .i64 E.of_); have as5 := Tryz.as_coming_locking (.int .i64 E.of_); have as6 := Tryz.as_coming_unlocking (.int .i64 E.of_); have as7 := Tryz.as_coming_coming (.int .i64 E.of_); obtain ⟨ao, co, al, cl, ac, cc, rfl, bx1, hao, hal, hac⟩ := H1.shape; obtain ⟨o0, o1, o2, o3⟩ := box_cells bx1; have bh1 : (w.alloc (.cells #[.int .i64 E.of_] 154)).heap[w.heap.size]? = some (.cells #[.int .i64 E.of_] 154 (0, 0)) := Deep.blk_alloc_new _ _; have n0 : (w.alloc (.cells #[.int .i64 E.of_] 154)).cell? ⟨w.heap.size, 0, none⟩ = some (.int .i64 E.of_) := cell_of_box bh1 rfl; have bh2 := bh1; have zp : p < (w.alloc (.cells #[.int .i64 E.of_] 154)).heap.size := (Array.getElem?_eq_some_iff.1 bx1).1; have bkw : ∀ b, bookBlocks B K b → b < w.heap.size := fun b hb => h.book.own.blocks_lt hb; have hV : ac = some ⟨K.C, 0, none⟩ := hac (by omega); subst hV; obtain ⟨W, hW⟩ : ∃ W, W = (w.alloc (.cells #[.int .i64 E.of_] 154)) := ⟨_, rfl⟩; have HW : Hid (W = (w.alloc (.cells #[.int .i64 E.of_] 154)) ∧ E.of_ = (m : Int)) := ⟨hW, hmo⟩; clear hW hmo
 go_enter Tryz.func60, Tryz.ntmps60
 go_wp2; obtain ⟨hW, hmo⟩ := HW.out; clear HW; rw [← hW] at H1 B1 bx1 bh1 n0 o3 zp ⊢; rw [hmo] at n0; clear bh2 o0 o1 o2; obtain ⟨_, _, _, _, _, _, ev, -, h2, h3⟩ := H1.book.own.shape; simp only [Value.agg.injEq, Array.mk.injEq, List.cons.injEq, Value.slice.injEq, and_true, true_and] at ev; obtain ⟨⟨rfl, rfl⟩, ⟨rfl, rfl⟩, ⟨rfl, rfl⟩⟩ := ev; have l1 : W.cell? ⟨K.C, m, none⟩ = some (.bool (B.occ.getD m false)) := (h3.row (by omega)).cell hm; have l2 : W.frozen? ⟨K.C, m, none⟩ = false := (h3.row (by omega)).frozen m; have hbk : bookBlocks B K K.C := Or.inr (Or.inr ⟨by omega, rfl⟩); have ne1 : K.C ≠ p := H1.np _ hbk; have ne2 : K.C ≠ w.heap.size := by have := bkw _ hbk; omega
 have HP : Hid (HapPre A W lo p _ B K ∧ Below w.heap.size w W ∧ bookBlocks B K K.C) := ⟨H1, B1, hbk⟩; clear bx1 bh1 bkw hW hok hin h2 h3 hbk H1 B1; rw [hmo]; clear hmo
 go_region_held3 (fun w' => w'.cell? ⟨p, 3, none⟩ = some (.slice (some ⟨K.C, 0, none⟩) B.occ.length cc) ∧ w'.cell? ⟨w.heap.size, 0, none⟩ = some (.int .i64 (m : Int))) (go_keep) (fail)
 go_wp2; go_ret; rw [doP_occ HG.out.2.1 HG.out.2.2.1, hmt]; exact (RetX.toY (K := K) (B := B) ⟨none, rfl, Or.inl rfl, rfl, HP.out.1.book.own.drew.setOcc hm true, (Fr.of_below (S := bookBlocks B K) (Below.refl W.heap.size W).drew).setCell (p := ⟨K.C, m, none⟩) HP.out.2.2 _⟩ HP.out.1.book.own HP.out.1.box HP.out.1.np HP.out.1.lo_).from HP.out.2.1 HG.out.2.2.2
set_option maxHeartbeats 4000000 in
theorem happen_9 (A : Nat → Addr) (v : Value) (B : Bk) (K : Blk) (lo p : Nat) (E : Ev) (ad : Option Addr) (_c : Nat) (w : World) (h : HapPre A w lo p v B K) (hok : EvOk B E) (ho : E.op = 9) (_hes : E.secs.length ≤ 1048576) (G : Cells w ad E.secs.length (iV E.secs)) :
  Calls Tryz.prog 60 #[.pointer (some ⟨p, 0, none⟩), .iface 155 (.agg #[.int .i64 E.of_])] w fun e w' => RetY A e w w' lo p (doP B E) := by
 have hin := (EvOk.at6 hok (show In E.op 6 9 by rw [ho]; exact ⟨by omega, by omega⟩)).1; obtain ⟨m, hmo⟩ : ∃ m : Nat, E.of_ = (m : Int) := ⟨E.of_.toNat, by have := hin.1; omega⟩; have hm : m < B.occ.length := by have := hin.2; have := h.right.1.2.2.1; omega
 have hmt : E.of_.toNat = m := by omega
 have hm0 : (0 : Int) ≤ (m : Int) := by omega
 have hm1 : (m : Int) < (B.occ.length : Int) := by omega
 have B1 : Below w.heap.size w (w.alloc (.cells #[.int .i64 E.of_] 155)) := below1 _ _; have H1 := h.below B1; have HG : Hid (Cells w ad E.secs.length (iV E.secs) ∧ EvOk B E ∧ E.op = 9 ∧ lo ≤ w.heap.size) := ⟨G, hok, ho, h.lo_⟩; have as0 := Tryz.as_leaving_writing (.int .i64 E.of_); have as1 := Tryz.as_leaving_giving (.int .i64 E.of_); have as2 := Tryz.as_leaving_repeating (.int .i64 E.of_); have as3 := Tryz.as_leaving_givingBack (.int .i64 E.of_); have as4 := Tryz.as_leaving_cancelling (.int .i64 E.of_); have as5 := Tryz.as_leaving_locking (.int .i64 E.of_); have as6 := Tryz.as_leaving_unlocking (.int .i64 E.of_); have as7 := Tryz.as_leaving_coming (.int .i64 E.of_); have as8 := Tryz.as_leaving_leaving (.int .i64 E.of_); obtain ⟨ao, co, al, cl, ac, cc, rfl, bx1, hao, hal, hac⟩ := H1.shape; obtain ⟨o0, o1, o2, o3⟩ := box_cells bx1; have bh1 : (w.alloc (.cells #[.int .i64 E.of_] 155)).heap[w.heap.size]? = some (.cells #[.int .i64 E.of_] 155 (0, 0)) := Deep.blk_alloc_new _ _; have n0 : (w.alloc (.cells #[.int .i64 E.of_] 155)).cell? ⟨w.heap.size, 0, none⟩ = some (.int .i64 E.of_) := cell_of_box bh1 rfl; have bh2 := bh1; have zp : p < (w.alloc (.cells #[.int .i64 E.of_] 155)).heap.size := (Array.getElem?_eq_some_iff.1 bx1).1; have bkw : ∀ b, bookBlocks B K b → b < w.heap.size := fun b hb => h.book.own.blocks_lt hb; have hV : ac = some ⟨K.C, 0, none⟩ := hac (by omega); subst hV; obtain ⟨W, hW⟩ : ∃ W, W = (w.alloc (.cells #[.int .i64 E.of_] 155)) := ⟨_, rfl⟩; have HW : Hid (W = (w.alloc (.cells #[.int .i64 E.of_] 155)) ∧ E.of_ = (m : Int)) := ⟨hW, hmo⟩; clear hW hmo
 go_enter Tryz.func60, Tryz.ntmps60
 go_wp2; obtain ⟨hW, hmo⟩ := HW.out; clear HW; rw [← hW] at H1 B1 bx1 bh1 n0 o3 zp ⊢; rw [hmo] at n0; clear bh2 o0 o1 o2; obtain ⟨_, _, _, _, _, _, ev, -, h2, h3⟩ := H1.book.own.shape; simp only [Value.agg.injEq, Array.mk.injEq, List.cons.injEq, Value.slice.injEq, and_true, true_and] at ev; obtain ⟨⟨rfl, rfl⟩, ⟨rfl, rfl⟩, ⟨rfl, rfl⟩⟩ := ev; have l1 : W.cell? ⟨K.C, m, none⟩ = some (.bool (B.occ.getD m false)) := (h3.row (by omega)).cell hm; have l2 : W.frozen? ⟨K.C, m, none⟩ = false := (h3.row (by omega)).frozen m; have hbk : bookBlocks B K K.C := Or.inr (Or.inr ⟨by omega, rfl⟩); have ne1 : K.C ≠ p := H1.np _ hbk; have ne2 : K.C ≠ w.heap.size := by have := bkw _ hbk; omega
 have HP : Hid (HapPre A W lo p _ B K ∧ Below w.heap.size w W ∧ bookBlocks B K K.C) := ⟨H1, B1, hbk⟩; clear bx1 bh1 bkw hW hok hin h2 h3 hbk H1 B1; rw [hmo]; clear hmo
 go_region_held3 (fun w' => w'.cell? ⟨p, 3, none⟩ = some (.slice (some ⟨K.C, 0, none⟩) B.occ.length cc) ∧ w'.cell? ⟨w.heap.size, 0, none⟩ = some (.int .i64 (m : Int))) (go_keep) (fail)
 go_wp2; go_ret; rw [doP_free HG.out.2.1 HG.out.2.2.1, hmt]; exact (RetX.toY (K := K) (B := B) ⟨none, rfl, Or.inl rfl, rfl, HP.out.1.book.own.drew.setOcc hm false, (Fr.of_below (S := bookBlocks B K) (Below.refl W.heap.size W).drew).setCell (p := ⟨K.C, m, none⟩) HP.out.2.2 _⟩ HP.out.1.book.own HP.out.1.box HP.out.1.np HP.out.1.lo_).from HP.out.2.1 HG.out.2.2.2
end Go.Proofs.YtdlaekjofgbjcaaGreatDoor
/-
 The contracts of impl.behind, impl.Do. Mine, by template (wip/gen.py).
-/
namespace Go.Proofs.YtdlaekjofgbjcaaGreatDoor
open Go.RowKit
theorem stand' {p : Prop} (h : Stand p) : p := h
theorem OwnBook.mono {w : World} {lo lo' : Nat} {v : Value} {B : Bk} {K : Blk} (h : OwnBook w lo v B K) (hl : lo' ≤ lo) : OwnBook w lo' v B K := by
 obtain ⟨⟨ao, co, al, cl, ac, cc, e, h1, h2, h3⟩, q1, q2, q3, q4, q5⟩ := h; exact ⟨⟨ao, co, al, cl, ac, cc, e, h1.mono hl, h2.mono hl, h3.mono hl⟩, q1, q2, q3, q4, q5⟩
theorem happen_any (A : Nat → Addr) (v : Value) (B : Bk) (K : Blk) (lo p : Nat) (E : Ev) (ad : Option Addr) (c : Nat) (w : World) (h : HapPre A w lo p v B K) (hok : EvOk B E) (hes : E.secs.length ≤ 1048576) (G : Cells w ad E.secs.length (iV E.secs)) :
  Calls Tryz.prog 60 #[.pointer (some ⟨p, 0, none⟩), hapV E.op E.of_ E.holder E.kind ad E.secs.length c E.text] w fun e w' => RetY A e w w' lo p (doP B E) := by
 have hin := EvOk.some hok; unfold In at hin; unfold hapV; rcases (show E.op = 1 ∨ E.op = 2 ∨ E.op = 3 ∨ E.op = 4 ∨ E.op = 5 ∨ E.op = 6 ∨ E.op = 7 ∨ E.op = 8 ∨ E.op = 9 by omega) with o | o | o | o | o | o | o | o | o
 · rw [if_pos o]; exact happen_1 A v B K lo p E ad c w h hok o hes G
 · rw [if_neg (by omega), if_pos o]; exact happen_2 A v B K lo p E ad c w h hok o hes G
 · rw [if_neg (by omega), if_neg (by omega), if_pos o]; exact happen_3 A v B K lo p E ad c w h hok o hes G
 · rw [if_neg (by omega), if_neg (by omega), if_neg (by omega), if_pos o]; exact happen_4 A v B K lo p E ad c w h hok o hes G
 · rw [if_neg (by omega), if_neg (by omega), if_neg (by omega), if_neg (by omega), if_pos o]; exact happen_5 A v B K lo p E ad c w h hok o hes G
 · rw [if_neg (by omega), if_neg (by omega), if_neg (by omega), if_neg (by omega), if_neg (by omega), if_pos o]; exact happen_6 A v B K lo p E ad c w h hok o hes G
 · rw [if_neg (by omega), if_neg (by omega), if_neg (by omega), if_neg (by omega), if_neg (by omega), if_neg (by omega), if_pos o]; exact happen_7 A v B K lo p E ad c w h hok o hes G
 · rw [if_neg (by omega), if_neg (by omega), if_neg (by omega), if_neg (by omega), if_neg (by omega), if_neg (by omega), if_neg (by omega), if_pos o]; exact happen_8 A v B K lo p E ad c w h hok o hes G
 · rw [if_neg (by omega), if_neg (by omega), if_neg (by omega), if_neg (by omega), if_neg (by omega), if_neg (by omega), if_neg (by omega), if_neg (by omega), if_pos o]; exact happen_9 A v B K lo p E ad c w h hok o hes G
def RetB2 (A : Nat → Addr) (e : Ending) (w w' : World) (B : Bk) (E : Ev) : Prop :=
 ∃ o v K, e = .returned (.tuple #[v, errO A o]) ∧ ErrOk o ∧ codeN o = (doP B E).1 ∧ OwnBook w' w.heap.size v (doP B E).2 K ∧ Below w.heap.size w w'
set_option maxHeartbeats 8000000 in
theorem behind_any (A : Nat → Addr) (v ve : Value) (B : Bk) (E : Ev) (w : World) (hE : Errs w A) (hT : Lib.TabIs Tryz.prog w "internal/strconv.uint64pow10" .u64 Lib.pow10Tab) (hsm : B.orders.length ≤ 1048576 ∧ ∀ i, i < B.orders.length → (bX B i).secs.length ≤ 1048576 ∧ (bX B i).holder.size ≤ 1048576)
  (he1 : E.holder.size ≤ 1048576) (he2 : E.text.size ≤ 1048576) (he3 : E.secs.length ≤ 1048576) (G : BookAt w v B) (GE : EvAt w ve E) :
  Calls Tryz.prog 26 #[v, ve] w fun e w' => RetB2 A e w w' B E := by
 have G0 := G; have GE0 := GE; obtain ⟨ao, co, al, cl, ac, cc, rfl, -⟩ := G; obtain ⟨ad, ca, rfl, -⟩ := GE; have HG : Hid (BookAt w (.agg #[.int .i64 B.n, .slice ao B.orders.length co, .slice al B.locked.length cl, .slice ac B.occ.length cc]) B ∧ EvAt w (.agg #[.int .i64 E.op, .int .i64 E.of_, .string E.holder, .int .i64 E.kind, .slice ad E.secs.length ca, .string E.text]) E ∧ Errs w A ∧ Lib.TabIs Tryz.prog w "internal/strconv.uint64pow10" .u64 Lib.pow10Tab) := ⟨G0, GE0, hE, hT⟩; clear G0 GE0 hE hT; have B3 : Below w.heap.size w (((w.alloc (.cells #[.int .i64 B.n, .slice ao B.orders.length co, .slice al B.locked.length cl, .slice ac B.occ.length cc] 37)).alloc (.cells #[.int .i64 E.op, .int .i64 E.of_, .string E.holder, .int .i64 E.kind, .slice ad E.secs.length ca, .string E.text] 32)).alloc (.cells #[.int .i64 0, .slice none 0 0, .slice none 0 0, .slice none 0 0] 37)) := below3 _ _ _ _
 go_enter Tryz.func26, Tryz.ntmps26
 go_wp2_with fail
 refine (implEventOk_any _ _ B E _ hsm.1 hsm.2 (by omega) (by omega) (by omega) (HG.out.1.below B3) (HG.out.2.1.below B3)).mono ?_; rintro e w1 ⟨hr, hb⟩; have sz3 : (((w.alloc (.cells #[.int .i64 B.n, .slice ao B.orders.length co, .slice al B.locked.length cl, .slice ac B.occ.length cc] 37)).alloc (.cells #[.int .i64 E.op, .int .i64 E.of_, .string E.holder, .int .i64 E.kind, .slice ad E.secs.length ca, .string E.text] 32)).alloc (.cells #[.int .i64 0, .slice none 0 0, .slice none 0 0, .slice none 0 0] 37)).heap.size = w.heap.size + 3 := by simp
 have x0 : w1.heap[w.heap.size]? = some (.cells #[.int .i64 B.n, .slice ao B.orders.length co, .slice al B.locked.length cl, .slice ac B.occ.length cc] 37 (0, 0)) := (hb.block _ (by omega)).trans (by rw [Deep.blk_alloc_lt _ _ _ (by simp; omega), Deep.blk_alloc_lt _ _ _ (by simp)]; exact Deep.blk_alloc_new _ _)
 have x1 : w1.heap[w.heap.size + 1]? = some (.cells #[.int .i64 E.op, .int .i64 E.of_, .string E.holder, .int .i64 E.kind, .slice ad E.secs.length ca, .string E.text] 32 (0, 0)) := (hb.block _ (by omega)).trans (by
  rw [Deep.blk_alloc_lt _ _ _ (by simp)]; have := Deep.blk_alloc_new (w.alloc (.cells #[.int .i64 B.n, .slice ao B.orders.length co, .slice al B.locked.length cl, .slice ac B.occ.length cc] 37)) (.cells #[.int .i64 E.op, .int .i64 E.of_, .string E.holder, .int .i64 E.kind, .slice ad E.secs.length ca, .string E.text] 32)
  simpa using this)
 have x2 : w1.heap[w.heap.size + 1 + 1]? = some (.cells #[.int .i64 0, .slice none 0 0, .slice none 0 0, .slice none 0 0] 37 (0, 0)) := (hb.block _ (by omega)).trans (by
  have := Deep.blk_alloc_new ((w.alloc (.cells #[.int .i64 B.n, .slice ao B.orders.length co, .slice al B.locked.length cl, .slice ac B.occ.length cc] 37)).alloc (.cells #[.int .i64 E.op, .int .i64 E.of_, .string E.holder, .int .i64 E.kind, .slice ad E.secs.length ca, .string E.text] 32)) (.cells #[.int .i64 0, .slice none 0 0, .slice none 0 0, .slice none 0 0] 37)
  simpa using this)
 have bw : Below w.heap.size w w1 := B3.trans (hb.mono B3.size); have z1 : w.heap.size + 3 ≤ w1.heap.size := by have := hb.size; omega
 have HX : Hid (w1.heap[w.heap.size]? = some (.cells #[.int .i64 B.n, .slice ao B.orders.length co, .slice al B.locked.length cl, .slice ac B.occ.length cc] 37 (0, 0)) ∧ w1.heap[w.heap.size + 1]? = some (.cells #[.int .i64 E.op, .int .i64 E.of_, .string E.holder, .int .i64 E.kind, .slice ad E.secs.length ca, .string E.text] 32 (0, 0)) ∧ w1.heap[w.heap.size + 1 + 1]? = some (.cells #[.int .i64 0, .slice none 0 0, .slice none 0 0, .slice none 0 0] 37 (0, 0)) ∧ Below w.heap.size w w1) := ⟨x0, x1, x2, bw⟩; obtain ⟨m0, m1, m2, m3⟩ := box_cells x0; obtain ⟨q0, q1, q2, q3⟩ := box_cells x2; have f0 : w1.frozen? ⟨w.heap.size + 1 + 1, 0, none⟩ = false := frozen_of_box x2; have f1 : w1.frozen? ⟨w.heap.size + 1 + 1, 1, none⟩ = false := frozen_of_box x2; have f2 : w1.frozen? ⟨w.heap.size + 1 + 1, 2, none⟩ = false := frozen_of_box x2; have f3 : w1.frozen? ⟨w.heap.size + 1 + 1, 3, none⟩ = false := frozen_of_box x2; have v0 : w1.cell? ⟨0, 0, none⟩ = some (errV A 0) := (HG.out.2.2.1.below bw).v 0 (by omega); clear hb B3 sz3 x0 x1 x2 bw; rcases hr.cases with ⟨rfl, hok⟩ | ⟨rfl, hok⟩
 ·
  have HK : Hid (EvOk B E) := hok; clear hok hr v0 f0 f1 f2 f3 q0 q1 q2 q3
  go_wp2_with fail
  refine (copyBook_any _ B _ hsm.1 (fun i hi => (hsm.2 i hi).1) (by have := HK.out.1.1.1.2; have := HK.out.1.1.2.1; omega) (by have := HK.out.1.1.1.2; have := HK.out.1.1.2.2.1; omega) (HG.out.1.below HX.out.2.2.2)).mono ?_; rintro e w2 ⟨v2, rfl, ⟨K, hrow⟩, hb2⟩; obtain ⟨ao2, co2, al2, cl2, ac2, cc2, hv2, -⟩ := hrow.own.shape; subst hv2; have z2 : w1.heap.size ≤ w2.heap.size := hb2.size; have y1 : w2.heap[w.heap.size + 1]? = some (.cells #[.int .i64 E.op, .int .i64 E.of_, .string E.holder, .int .i64 E.kind, .slice ad E.secs.length ca, .string E.text] 32 (0, 0)) := (hb2.block _ (by omega)).trans HX.out.2.1; have y2 : w2.heap[w.heap.size + 1 + 1]? = some (.cells #[.int .i64 0, .slice none 0 0, .slice none 0 0, .slice none 0 0] 37 (0, 0)) := (hb2.block _ (by omega)).trans HX.out.2.2.1; have y1' := (Deep.blk_alloc_lt w2 (.cells #[.int .i64 B.n, .slice ao2 B.orders.length co2, .slice al2 B.locked.length cl2, .slice ac2 B.occ.length cc2] 37) _ (Array.getElem?_eq_some_iff.1 y1).1).trans y1; obtain ⟨e0, e1, e2, e3, e4, e5⟩ := ev_cells y1'; have bw2 := below_trans HX.out.2.2.2 HX.out.2.2.2.size hb2; have HR : Hid (RowBook w2 w1.heap.size (.agg #[.int .i64 B.n, .slice ao2 B.orders.length co2, .slice al2 B.locked.length cl2, .slice ac2 B.occ.length cc2]) B K ∧ w2.heap[w.heap.size + 1 + 1]? = some (.cells #[.int .i64 0, .slice none 0 0, .slice none 0 0, .slice none 0 0] 37 (0, 0)) ∧ Below w.heap.size w w2) := ⟨hrow, y2, bw2⟩; clear hrow hb2 y1 y1' y2 bw2 m0 m1 m2 m3
  go_wp2_with fail
  refine (happeningOf_any E.op E.of_ E.holder E.kind ad E.secs.length ca E.text _).mono ?_; rintro e w3 ⟨rfl, hb3⟩; have sz : (w2.alloc (.cells #[.int .i64 B.n, .slice ao2 B.orders.length co2, .slice al2 B.locked.length cl2, .slice ac2 B.occ.length cc2] 37)).heap.size = w2.heap.size + 1 := alloc_size _ _; have st : Below w2.heap.size w2 w3 := (below1 _ _).trans (hb3.mono (by omega)); have bp : w3.heap[w2.heap.size]? = some (.cells #[.int .i64 B.n, .slice ao2 B.orders.length co2, .slice al2 B.locked.length cl2, .slice ac2 B.occ.length cc2] 37 (0, 0)) := (hb3.block _ (by omega)).trans (Deep.blk_alloc_new _ _); have bw3 := below_trans HR.out.2.2 HR.out.2.2.size st; have HP : HapPre A w3 w1.heap.size w2.heap.size (.agg #[.int .i64 B.n, .slice ao2 B.orders.length co2, .slice al2 B.locked.length cl2, .slice ac2 B.occ.length cc2]) B K := ⟨HG.out.2.2.1.below bw3, tab_below HG.out.2.2.2 bw3, HR.out.1.below st, ⟨_, _, _, _, rfl, bp⟩, fun b hb => by have := HR.out.1.own.blocks_lt hb; omega, by have := st.size; omega, z2, HK.out.1, hsm⟩
  have CH := happen_any A _ B K _ _ E ad ca w3 HP HK.out he3 (by
   obtain ⟨ad', c', e, hc⟩ := HG.out.2.1; simp only [Value.agg.injEq, Array.mk.injEq, List.cons.injEq, Value.slice.injEq, and_true, true_and] at e; obtain ⟨rfl, rfl⟩ := e
   exact hc.below bw3)
  have HZ : Hid (w3.heap[w.heap.size + 1 + 1]? = some (.cells #[.int .i64 0, .slice none 0 0, .slice none 0 0, .slice none 0 0] 37 (0, 0)) ∧ Below w.heap.size w w3) := ⟨(st.block _ (by omega)).trans HR.out.2.1, bw3⟩; clear hb3 sz st bp bw3 HP e0 e1 e2 e3 e4 e5
  go_wp2_with (go_at_call 60; refine CH.mono ?_; rintro e w4 ⟨o, v', K', rfl, r1, r2, r3, r4, r5⟩; refine stand' ?_)
  refine Stand.go ?_; obtain ⟨ao4, co4, al4, cl4, ac4, cc4, hv4, -⟩ := r3.shape; subst hv4; obtain ⟨a, b, c, d, e, bp4⟩ := r4; simp only [Value.agg.injEq, Array.mk.injEq, List.cons.injEq, and_true] at e; obtain ⟨rfl, rfl, rfl, rfl⟩ := e; have x4 : w4.heap[w.heap.size + 1 + 1]? = some (.cells #[.int .i64 0, .slice none 0 0, .slice none 0 0, .slice none 0 0] 37 (0, 0)) := (r5.block _ (by omega)).trans HZ.out.1; have bw4 : Below w.heap.size w w4 := HZ.out.2.trans (r5.mono (by omega)); have HQ : Hid (ErrOk o ∧ codeN o = (doP B E).1 ∧ OwnBook w4 w1.heap.size _ (doP B E).2 K' ∧ Below w.heap.size w w4) := ⟨r1, r2, r3, bw4⟩; obtain ⟨p0, p1, p2, p3⟩ := box_cells bp4; obtain ⟨q0, q1, q2, q3⟩ := box_cells x4; have f0 : w4.frozen? ⟨w.heap.size + 1 + 1, 0, none⟩ = false := frozen_of_box x4; have f1 : w4.frozen? ⟨w.heap.size + 1 + 1, 1, none⟩ = false := frozen_of_box x4; have f2 : w4.frozen? ⟨w.heap.size + 1 + 1, 2, none⟩ = false := frozen_of_box x4; have f3 : w4.frozen? ⟨w.heap.size + 1 + 1, 3, none⟩ = false := frozen_of_box x4; clear r1 r2 r3 r5 bp4 x4 bw4 CH; go_wp2; refine bodyPost_ret (v := .tuple #[.agg #[.int .i64 (doP B E).2.n, .slice ao4 (doP B E).2.orders.length co4, .slice al4 (doP B E).2.locked.length cl4, .slice ac4 (doP B E).2.occ.length cc4], errO A o]) (by simp [results, Tryz.results26, go_sem, q0, q1, q2, q3]) rfl ⟨o, _, K', rfl, HQ.out.1, HQ.out.2.1, ?_, ?_⟩
  ·
   refine OwnBook.mono (lo := w1.heap.size) ?_ (by omega); have t3 := HQ.out.2.2.1; have lows : ∀ i, ∀ b, bookBlocks (doP B E).2 K' b → b ≠ (⟨w.heap.size + 1 + 1, i, none⟩ : Addr).block := fun i b hb => by have := t3.blocks_low hb; show b ≠ w.heap.size + 1 + 1; omega
   exact (((t3.setOther (lows 0) _).setOther (lows 1) _).setOther (lows 2) _).setOther (lows 3) _
  ·
   have t4 := HQ.out.2.2.2
   repeat (refine below_set ?_ _ _ (by omega) _)
   exact t4
 ·
  have HK : Hid (¬ EvOk B E) := hok
  have hg : w.heap.size + 1 + 1 ≠ 0 := by
   have : errG 0 < w.heap.size := World.block_lt_of_cell? _ _ (HG.out.2.2.1.v 0 (by omega)); unfold errG at this; omega
  clear hok hr m0 m1 m2 m3; go_wp2
  go_region_held3 (fun w' => w'.cell? ⟨0, 0, none⟩ = some (errV A 0)) (go_keep) (fail)
  all_goals (
   go_wp2; refine bodyPost_ret (v := .tuple #[.agg #[.int .i64 0, .slice none 0 0, .slice none 0 0, .slice none 0 0], errV A 0]) (by simp [results, Tryz.results26, go_sem, q0, q1, q2, q3]) rfl ⟨some 0, _, _, rfl, Or.inr (Or.inl rfl), by rw [doP_none HK.out]; rfl, by rw [doP_none HK.out]; exact ownBook_zero _ _, ?_⟩; have t4 := HX.out.2.2.2; refine Below.drew ?_
   repeat (refine below_set ?_ _ _ (by omega) _)
   exact t4)
def RetDo (e : Ending) (w w' : World) (B : Bk) (E : Ev) : Prop :=
 ∃ a b c d K, e = .returned (.agg #[.int .i64 (doP B E).1, a, b, c, d]) ∧ OwnBook w' w.heap.size (.agg #[a, b, c, d]) (doP B E).2 K ∧ Below w.heap.size w w'
end Go.Proofs.YtdlaekjofgbjcaaGreatDoor
