/-
  The contracts of laws.eqBoolS, eqIntS, eqOrder, eqOrderS, eqBook: where the two are the same, true. Mine, by template (wip/gen.py).
-/
import Derived.Test.YtbgmgfnhmlpehabDoorBase
import Derived.Deep.QuietTactic
import Derived.BigQuiet
import Derived.Deep.RegionHeld3
import Derived.Deep.DrawnRows
namespace Go.Proofs.YtbgmgfnhmlpehabDoor
open Go.RowKit
set_option maxHeartbeats 400000 in
theorem eqIntS_same (a1 a2 : Option Addr) (c1 c2 n : Nat) (V : Nat → Int) (w : World) (hn : n ≤ 4294967296)
    (G1 : Cells w a1 n (fun i => .int .i64 (V i))) (G2 : Cells w a2 n (fun i => .int .i64 (V i))) :
    Calls Tryd.prog 25 #[.slice a1 n c1, .slice a2 n c2] w fun e w' => e = .returned (.bool true) ∧ Below w.heap.size w w' := by
  obtain ⟨b1, o1, h1, g1⟩ := G1
  obtain ⟨b2, o2, h2, g2⟩ := G2
  go_enter Tryd.func25, Tryd.ntmps25
  go_wp2
  go_loopw [5] (fun i wr => ∃ k : Nat, k ≤ n ∧ i = .int .i64 k ∧ Below w.heap.size w wr) (fun i _ => n - (intOf i).toNat)
  case atStart => exact ⟨0, Nat.zero_le _, rfl, Below.refl _ _⟩
  case round =>
    obtain ⟨k, hk, rfl, hb⟩ := hrel
    by_cases hlt : k < n
    · obtain rfl := h1 (by omega)
      obtain rfl := h2 (by omega)
      have e1 : wr.cell? ⟨b1, o1 + k, none⟩ = some (.int .i64 (V k)) := (hb.cell (p := ⟨b1, o1 + k, none⟩) (World.block_lt_of_cell? _ _ (g1 k hlt))).trans (g1 k hlt)
      have e2 : wr.cell? ⟨b2, o2 + k, none⟩ = some (.int .i64 (V k)) := (hb.cell (p := ⟨b2, o2 + k, none⟩) (World.block_lt_of_cell? _ _ (g2 k hlt))).trans (g2 k hlt)
      have hz : (0 : Int) ≤ (k : Int) := by omega
      have hlz : (k : Int) < (n : Int) := by omega
      clear g1 g2 h1 h2
      go_wp2
      go_quiet (fail)
      go_wp2
      go_roundw
      case rel => exact ⟨k + 1, by omega, by go_num, below_drewN hb _⟩
      case measure => simp [intOf]; omega
    · clear g1 g2 h1 h2
      go_wp2
      go_ret
      exact ⟨rfl, hb⟩

end Go.Proofs.YtbgmgfnhmlpehabDoor
