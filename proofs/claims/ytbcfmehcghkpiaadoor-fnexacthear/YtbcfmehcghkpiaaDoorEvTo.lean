/-
  The contracts of laws.szEvent, toEvent, eqEvent. Mine, by template (wip/gen.py).
-/
import Derived.Test.YtbcfmehcghkpiaaDoorEvZ
import Derived.Test.YtbcfmehcghkpiaaDoorBaseZ
namespace Go.Proofs.YtbcfmehcghkpiaaDoor
open Go.RowKit
/-- An event by value that owns its sections, in block g. -/
def OwnEv (w : World) (lo : Nat) (v : Value) (E : Ev) (g : Nat) : Prop :=
  v = .agg #[.int .i64 E.op, .int .i64 E.of_, .string E.holder, .int .i64 E.kind, .slice (some ⟨g, 0, none⟩) E.secs.length E.secs.length, .string E.text] ∧ lo ≤ g ∧ Pre w g 3 E.secs.length (iV E.secs)

theorem OwnEv.evAt {w : World} {lo : Nat} {v : Value} {E : Ev} {g : Nat} (h : OwnEv w lo v E g) : EvAt w v E :=
  ⟨_, _, h.1, g, 0, fun _ => rfl, fun i hi => by rw [Nat.zero_add]; exact h.2.2.cell hi⟩
theorem OwnEv.below {w w' : World} {lo : Nat} {v : Value} {E : Ev} {g : Nat} (h : OwnEv w lo v E g) (hb : Below w.heap.size w w') : OwnEv w' lo v E g :=
  ⟨h.1, h.2.1, h.2.2.of_block (hb.block _ h.2.2.lt)⟩

theorem row_other {w : World} {g : Nat} {t : TypeId} {n : Nat} {f : Nat → Value} (h : w.rowIs g t n f) (b o : Nat) (hb : g ≠ b) (u : Value) : (w.setCell ⟨b, o, none⟩ u).rowIs g t n f := h.setOther hb u
theorem below_set {B : Nat} {a w : World} (h : Below B a w) (b o : Nat) (hb : B ≤ b) (u : Value) : Below B a (w.setCell ⟨b, o, none⟩ u) := h.setCell hb u

set_option maxHeartbeats 1000000 in
theorem eqEvent_same (v1 v2 : Value) (E : Ev) (w : World) (hn : E.secs.length ≤ 1048576) (G1 : EvAt w v1 E) (G2 : EvAt w v2 E) :
    Calls Tryd.prog 17 #[v1, v2] w fun e w' => e = .returned (.bool true) ∧ Below w.heap.size w w' := by
  obtain ⟨a1, c1, rfl, K1⟩ := G1
  obtain ⟨a2, c2, rfl, K2⟩ := G2
  have B2 : Below w.heap.size w ((w.alloc (.cells #[.int .i64 E.op, .int .i64 E.of_, .string E.holder, .int .i64 E.kind, .slice a1 E.secs.length c1, .string E.text] 24)).alloc (.cells #[.int .i64 E.op, .int .i64 E.of_, .string E.holder, .int .i64 E.kind, .slice a2 E.secs.length c2, .string E.text] 24)) := below2 _ _ _
  have HK : Hid (Cells w a1 E.secs.length (iV E.secs) ∧ Cells w a2 E.secs.length (iV E.secs)) := ⟨K1, K2⟩
  clear K1 K2
  go_enter Tryd.func17, Tryd.ntmps17
  go_wp2_with fail
  refine (eqIntS_same a1 a2 c1 c2 E.secs.length (fun i => E.secs.getD i 0) _ (by omega) (HK.out.1.below B2) (HK.out.2.below B2)).mono ?_
  rintro e w1 ⟨rfl, hb⟩
  have bw : Below w.heap.size w w1 := B2.trans (hb.mono B2.size)
  obtain ⟨hc, hf⟩ := bcell hb
  clear hb B2 hf
  go_wp2
  go_ret
  exact ⟨rfl, bw⟩

end Go.Proofs.YtbcfmehcghkpiaaDoor
