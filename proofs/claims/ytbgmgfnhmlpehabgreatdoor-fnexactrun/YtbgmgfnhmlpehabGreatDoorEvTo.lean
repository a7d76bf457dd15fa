/-
  The contracts of laws.szEvent, toEvent, eqEvent. Mine, by template (wip/gen.py).
-/
import Derived.Test.YtbgmgfnhmlpehabGreatDoorEv
import Derived.Test.YtbgmgfnhmlpehabGreatDoorTo
import Derived.Test.YtbgmgfnhmlpehabGreatDoorEq
namespace Go.Proofs.YtbgmgfnhmlpehabGreatDoor
open Go.RowKit

set_option maxHeartbeats 400000 in
theorem szEvent_any (v : Value) (E : Ev) (left : Int) (w : World) (hs : E.holder.size ≤ 9223372036854775807) (ht : E.text.size ≤ 9223372036854775807) (hn : E.secs.length ≤ 9223372036854775807) (h0 : 0 ≤ left) (h1 : left ≤ 1048576) (G : EvAt w v E) :
    Calls Tryz.prog 7 #[v, .int .i64 left] w fun e w' => ∃ r, e = .returned (.int .i64 r) ∧ szOk left (wEv E) r ∧ Below w.heap.size w w' := by
  obtain ⟨ad, c, rfl, -⟩ := G
  go_enter Tryz.func7, Tryz.ntmps7
  have B1 := below1 w (.cells #[.int .i64 E.op, .int .i64 E.of_, .string E.holder, .int .i64 E.kind, .slice ad E.secs.length c, .string E.text] 28)
  by_cases h : left - E.holder.size < 0
  · go_wp2
    go_ret
    exact ⟨_, rfl, Or.inl (by decide), B1⟩
  · go_wp2_with fail
    refine (szIntS_any ad E.secs.length c _ _ hn (by omega) (by omega)).mono ?_
    rintro e w1 ⟨r, rfl, hr, hb⟩
    have bw : Below w.heap.size w w1 := B1.trans (hb.mono (by simp))
    obtain ⟨hc, hf⟩ := bcell hb
    clear hb B1 hf
    by_cases hneg : r < 0
    · go_wp2
      go_ret
      exact ⟨_, rfl, Or.inl (by decide), bw⟩
    · have hr' : r + E.secs.length = left - E.holder.size := by rcases hr with h | h <;> omega
      clear hr
      by_cases h3 : r - E.text.size < 0
      · go_wp2
        go_ret
        exact ⟨_, rfl, Or.inl (by decide), bw⟩
      · go_wp2
        go_ret
        exact ⟨_, rfl, Or.inr ⟨by omega, by unfold wEv; omega⟩, bw⟩

/-- An event by value that owns its sections, in block g. -/
def OwnEv (w : World) (lo : Nat) (v : Value) (E : Ev) (g : Nat) : Prop :=
  v = .agg #[.int .i64 E.op, .int .i64 E.of_, .string E.holder, .int .i64 E.kind, .slice (some ⟨g, 0, none⟩) E.secs.length E.secs.length, .string E.text] ∧ lo ≤ g ∧ Pre w g 3 E.secs.length (iV E.secs)

theorem OwnEv.evAt {w : World} {lo : Nat} {v : Value} {E : Ev} {g : Nat} (h : OwnEv w lo v E g) : EvAt w v E :=
  ⟨_, _, h.1, g, 0, fun _ => rfl, fun i hi => by rw [Nat.zero_add]; exact h.2.2.cell hi⟩
theorem OwnEv.below {w w' : World} {lo : Nat} {v : Value} {E : Ev} {g : Nat} (h : OwnEv w lo v E g) (hb : Below w.heap.size w w') : OwnEv w' lo v E g :=
  ⟨h.1, h.2.1, h.2.2.of_block (hb.block _ h.2.2.lt)⟩

theorem row_other {w : World} {g : Nat} {t : TypeId} {n : Nat} {f : Nat → Value} (h : w.rowIs g t n f) (b o : Nat) (hb : g ≠ b) (u : Value) : (w.setCell ⟨b, o, none⟩ u).rowIs g t n f := h.setOther hb u
theorem below_set {B : Nat} {a w : World} (h : Below B a w) (b o : Nat) (hb : B ≤ b) (u : Value) : Below B a (w.setCell ⟨b, o, none⟩ u) := h.setCell hb u

set_option maxHeartbeats 1000000 in
theorem toEvent_any (v : Value) (E : Ev) (w : World) (hn : E.secs.length ≤ 1048576) (G : EvAt w v E) :
    Calls Tryz.prog 10 #[v] w fun e w' => ∃ v' g, e = .returned v' ∧ OwnEv w' w.heap.size v' E g ∧ Below w.heap.size w w' := by
  obtain ⟨ad, c, rfl, K⟩ := G
  go_enter Tryz.func10, Tryz.ntmps10
  go_wp2_with fail
  have B3 : Below w.heap.size w (((w.alloc (.cells #[.int .i64 E.op, .int .i64 E.of_, .string E.holder, .int .i64 E.kind, .slice ad E.secs.length c, .string E.text] 28)).alloc (.cells #[.int .i64 0, .int .i64 0, .string ⟨#[]⟩, .int .i64 0, .slice none 0 0, .string ⟨#[]⟩] 38)).alloc (.cells #[.int .i64 E.op, .int .i64 E.of_, .string E.holder, .int .i64 E.kind, .slice none 0 0, .string ⟨#[]⟩] 38)) := below3 _ _ _ _
  refine (toIntS_any ad c E.secs.length (fun i => E.secs.getD i 0) _ hn (K.below B3)).mono ?_
  rintro e w1 ⟨rfl, hrow, hb⟩
  obtain ⟨hc, hf⟩ := bcell hb
  have z1 : w.heap.size + 1 + 1 + 1 < w1.heap.size := by have := hrow.lt; simpa using this
  have B4 := below_trans B3 B3.size hb
  have hsz : (((w.alloc (.cells #[.int .i64 E.op, .int .i64 E.of_, .string E.holder, .int .i64 E.kind, .slice ad E.secs.length c, .string E.text] 28)).alloc (.cells #[.int .i64 0, .int .i64 0, .string ⟨#[]⟩, .int .i64 0, .slice none 0 0, .string ⟨#[]⟩] 38)).alloc (.cells #[.int .i64 E.op, .int .i64 E.of_, .string E.holder, .int .i64 E.kind, .slice none 0 0, .string ⟨#[]⟩] 38)).heap.size = w.heap.size + 1 + 1 + 1 := by simp
  have hrow' : w1.rowIs (w.heap.size + 1 + 1 + 1) 3 E.secs.length (iV E.secs) := by rw [hsz] at hrow; exact hrow
  clear hsz
  have HR : Hid (w1.rowIs (w.heap.size + 1 + 1 + 1) 3 E.secs.length (iV E.secs) ∧ Below w.heap.size w w1) := ⟨hrow', B4⟩
  clear hb B3 B4 hrow hrow'
  obtain ⟨n, hn'⟩ : ∃ n, n = E.secs.length := ⟨_, rfl⟩
  go_wp2
  refine bodyPost_ret (v := .agg #[.int .i64 E.op, .int .i64 E.of_, .string E.holder, .int .i64 E.kind, .slice (some ⟨w.heap.size + 1 + 1 + 1, 0, none⟩) E.secs.length E.secs.length, .string E.text]) (by simp [results, Tryz.results10, go_sem, hc]) rfl ⟨_, w.heap.size + 1 + 1 + 1, rfl, ⟨rfl, by omega, preOf ?_⟩, ?_⟩
  · obtain ⟨hrow, _⟩ := HR.out
    repeat (refine row_other ?_ _ _ (by omega) _)
    exact hrow
  · obtain ⟨_, hb⟩ := HR.out
    repeat (refine below_set ?_ _ _ (by omega) _)
    exact hb

set_option maxHeartbeats 1000000 in
theorem eqEvent_same (v1 v2 : Value) (E : Ev) (w : World) (hn : E.secs.length ≤ 1048576) (G1 : EvAt w v1 E) (G2 : EvAt w v2 E) :
    Calls Tryz.prog 14 #[v1, v2] w fun e w' => e = .returned (.bool true) ∧ Below w.heap.size w w' := by
  obtain ⟨a1, c1, rfl, K1⟩ := G1
  obtain ⟨a2, c2, rfl, K2⟩ := G2
  have B2 : Below w.heap.size w ((w.alloc (.cells #[.int .i64 E.op, .int .i64 E.of_, .string E.holder, .int .i64 E.kind, .slice a1 E.secs.length c1, .string E.text] 38)).alloc (.cells #[.int .i64 E.op, .int .i64 E.of_, .string E.holder, .int .i64 E.kind, .slice a2 E.secs.length c2, .string E.text] 38)) := below2 _ _ _
  have HK : Hid (Cells w a1 E.secs.length (iV E.secs) ∧ Cells w a2 E.secs.length (iV E.secs)) := ⟨K1, K2⟩
  clear K1 K2
  go_enter Tryz.func14, Tryz.ntmps14
  go_wp2_with fail
  refine (eqIntS_same a1 a2 c1 c2 E.secs.length (fun i => E.secs.getD i 0) _ (by omega) (HK.out.1.below B2) (HK.out.2.below B2)).mono ?_
  rintro e w1 ⟨rfl, hb⟩
  have bw : Below w.heap.size w w1 := B2.trans (hb.mono B2.size)
  obtain ⟨hc, hf⟩ := bcell hb
  clear hb B2 hf
  go_wp2
  go_ret
  exact ⟨rfl, bw⟩

end Go.Proofs.YtbgmgfnhmlpehabGreatDoor
