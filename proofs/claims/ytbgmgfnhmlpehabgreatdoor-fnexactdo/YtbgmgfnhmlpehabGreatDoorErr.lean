/-
  The program's errors: eight variables, told apart; the contracts of errors.Is over them (after the guide's worked text on errors.Is) and of impl.codeOf. Mine, by template (wip/gen.py).
-/
import Derived.Test.YtbgmgfnhmlpehabGreatDoorBase
import Derived.LaidEql
import Derived.Stop.Asserts
import Derived.RowKitTokens
namespace Go.Proofs.YtbgmgfnhmlpehabGreatDoor
open Go.RowKit Go.Extern.Stop Go.Stop Go.Extern

theorem Tryz.isTypeOf (v : Value) (w : World) : (Extern.ReflectliteType.typeOf #[.iface 226 v]).run Tryz.prog w = .ok (.iface 157 (.agg #[.pointer (some ⟨15, 226, none⟩)])) w := by kernel_rfl
/-- What (rtype).Comparable runs. -/
def cmpX : Array Value → Sem Value := Extern.ReflectliteType.method fun t => do Go.Extern.Rtype.noPackHeld "Comparable" t; pure (.bool (← typeInfo t).comparable)
theorem Tryz.isComparable (w : World) : (cmpX #[.agg #[.pointer (some ⟨15, 226, none⟩)]]).run Tryz.prog w = .ok (.bool true) w := by kernel_rfl
theorem Tryz.isMethodComparable (v : Value) (w : World) : (Go.method 358 157 v "Comparable").run Tryz.prog w = .ok (191, v) w := by kernel_rfl
theorem Tryz.isComp : (Tryz.prog.info? 226).map (·.comparable) = some true := by kernel_rfl
theorem Tryz.isSize : (Tryz.prog.info? 228).map (·.size) = some 1 := by kernel_rfl
theorem Tryz.noIsE (v : Value) (xT : TypeId) (w : World) : (Instr.typeAssert (.iface 226 v) xT 159 true).run Tryz.prog w = .ok (.tuple #[.nilIface, .bool false]) w := run_typeAssert_lacksB Tryz.underlying159 (by kernel_rfl) (by kernel_rfl) v xT w
theorem Tryz.noUnwrapE (v : Value) (xT : TypeId) (w : World) : (Instr.typeAssert (.iface 226 v) xT 162 true).run Tryz.prog w = .ok (.tuple #[.nilIface, .bool false]) w := run_typeAssert_lacksB Tryz.underlying162 (by kernel_rfl) (by kernel_rfl) v xT w
theorem Tryz.noUnwrapsE (v : Value) (xT : TypeId) (w : World) : (Instr.typeAssert (.iface 226 v) xT 164 true).run Tryz.prog w = .ok (.tuple #[.nilIface, .bool false]) w := run_typeAssert_lacksB Tryz.underlying164 (by kernel_rfl) (by kernel_rfl) v xT w

theorem is_nil (b : Addr) (w : World) :
    Calls Tryz.prog 53 #[.nilIface, .iface 226 (.pointer (some b))] w fun e w' => e = .returned (.bool false) ∧ w' = w := by
  have hn := run_eql_iface_nil_left (P := Tryz.prog) w 226 (.pointer (some b)) Tryz.underlying73
  go_enter Tryz.func53, Tryz.ntmps53
  go_wp2
  go_ret
  exact ⟨rfl, rfl⟩

/-! ### The eight errors -/

/-- The variables, by their numbers. -/
def errG : Nat → Nat
  | 0 => 0
  | 1 => 1
  | 2 => 2
  | 3 => 3
  | 4 => 4
  | 5 => 5
  | 6 => 6
  | _ => 7

def errV (A : Nat → Addr) (k : Nat) : Value := .iface 226 (.pointer (some (A k)))
def errO (A : Nat → Addr) : Option Nat → Value
  | none => .nilIface
  | some k => errV A k

structure Errs (w : World) (A : Nat → Addr) : Prop where
  v : ∀ k, k < 8 → w.cell? ⟨errG k, 0, none⟩ = some (errV A k)
  b : ∀ k, k < 8 → ∃ c t, w.heap[(A k).block]? = some (.cells c t (0, 0))
  ne : ∀ i j, i < 8 → j < 8 → i ≠ j → A i ≠ A j

theorem Errs.below {w w' : World} {A : Nat → Addr} (h : Errs w A) (hb : Below w.heap.size w w') : Errs w' A :=
  ⟨fun k hk => (hb.cell (p := ⟨errG k, 0, none⟩) (World.block_lt_of_cell? _ _ (h.v k hk))).trans (h.v k hk), fun k hk => by
    obtain ⟨c, t, e⟩ := h.b k hk
    exact ⟨c, t, (hb.block _ (Array.getElem?_eq_some_iff.1 e).1).trans e⟩, h.ne⟩

/-- The number by which an answer tells why. -/
def codeN : Option Nat → Int
  | none => 0
  | some 0 => 1
  | some 1 => 2
  | some 2 => 2
  | some 3 => 3
  | some 4 => 3
  | some 5 => 4
  | some 6 => 4
  | some _ => 5

end Go.Proofs.YtbgmgfnhmlpehabGreatDoor
