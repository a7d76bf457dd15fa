/-
  The law FnExactHear: its walk. Mine, by program (wip/lhear.py), by template (wip/gen.py).
-/
import Derived.Test.YtbcfmehcghkpiaaDoorHearF
import Derived.Test.YtbcfmehcghkpiaaDoorMarkZ
namespace Go.Proofs.YtbcfmehcghkpiaaDoor
open Go.RowKit

/-- What Hear is to answer. -/
def AnsIs (l : List UInt8) (ok : Bool) (E : Ev) : Prop := (ok = true ∧ LineOk E ∧ lineT E = l) ∨ (ok = false ∧ (∀ E, LineOk E → lineT E ≠ l) ∧ E = ⟨0, 0, ⟨#[]⟩, 0, [], ⟨#[]⟩⟩)
theorem AnsIs.same {l : List UInt8} {ok ok' : Bool} {E E' : Ev} (h : AnsIs l ok E) (h' : AnsIs l ok' E') : ok = ok' ∧ E = E' := by
  rcases h with ⟨rfl, h1, h2⟩ | ⟨rfl, h1, h2⟩ <;> rcases h' with ⟨rfl, h3, h4⟩ | ⟨rfl, h3, h4⟩
  · exact ⟨rfl, lineT_inj h1 h3 (h2.trans h4.symm)⟩
  · exact absurd h2 (h3 _ h1)
  · exact absurd h4 (h1 _ h3)
  · exact ⟨rfl, h2.trans h4.symm⟩
theorem AnsIs.secs {l : List UInt8} {ok : Bool} {E : Ev} (h : AnsIs l ok E) : E.secs.length ≤ 60 := by
  rcases h with ⟨-, h1, -⟩ | ⟨-, -, rfl⟩
  · rcases h1 with q | q
    · have := q.2.2.2.2.1.2.2
      omega
    · have := q.2.2.2.1
      omega
  · exact Nat.zero_le _
theorem retH_is {e : Ending} {w' : World} {lo : Nat} {l : List UInt8} (h : RetH e w' lo l) : ∃ ok E ad c, AnsIs l ok E ∧ e = .returned (.agg #[.bool ok, .int .i64 E.op, .int .i64 E.of_, .string E.holder, .int .i64 E.kind, .slice ad E.secs.length c, .string E.text]) ∧ w'.ownsRow lo 3 1 (.slice ad E.secs.length c) E.secs.length (E.secs.map (Value.int .i64)) := by
  rcases h with ⟨E, ad, c, h1, h2, h3, h4⟩ | ⟨h1, h2⟩
  · exact ⟨true, E, ad, c, Or.inl ⟨rfl, h1, h2⟩, h3, h4⟩
  · exact ⟨false, ⟨0, 0, ⟨#[]⟩, 0, [], ⟨#[]⟩⟩, none, 0, Or.inr ⟨rfl, h1, rfl⟩, h2, World.ownsRow_nil _ _ _ _⟩

theorem heard_cells {w : World} {p : Nat} {z a b c d e f : Value} {t : TypeId} (h : w.heap[p]? = some (.cells #[z, a, b, c, d, e, f] t (0, 0))) :
    w.cell? ⟨p, 0, none⟩ = some z ∧ w.cell? ⟨p, 1, none⟩ = some a ∧ w.cell? ⟨p, 2, none⟩ = some b ∧ w.cell? ⟨p, 3, none⟩ = some c ∧ w.cell? ⟨p, 4, none⟩ = some d ∧ w.cell? ⟨p, 5, none⟩ = some e ∧ w.cell? ⟨p, 6, none⟩ = some f := by
  simp [World.cell?, h]

set_option maxHeartbeats 2000000 in
theorem eqHeard_same (ok : Bool) (E : Ev) (a1 a2 : Option Addr) (c1 c2 : Nat) (w : World) (hn : E.secs.length ≤ 1048576) (G1 : EvAt w (.agg #[.int .i64 E.op, .int .i64 E.of_, .string E.holder, .int .i64 E.kind, .slice a1 E.secs.length c1, .string E.text]) E) (G2 : EvAt w (.agg #[.int .i64 E.op, .int .i64 E.of_, .string E.holder, .int .i64 E.kind, .slice a2 E.secs.length c2, .string E.text]) E) :
    Calls Tryd.prog 6 #[(.agg #[.bool ok, .int .i64 E.op, .int .i64 E.of_, .string E.holder, .int .i64 E.kind, .slice a1 E.secs.length c1, .string E.text]), (.agg #[.bool ok, .int .i64 E.op, .int .i64 E.of_, .string E.holder, .int .i64 E.kind, .slice a2 E.secs.length c2, .string E.text])] w fun e w' => e = .returned (.bool true) ∧ Below w.heap.size w w' := by
  have B2 := below2 w (.cells #[.bool ok, .int .i64 E.op, .int .i64 E.of_, .string E.holder, .int .i64 E.kind, .slice a1 E.secs.length c1, .string E.text] 26) (.cells #[.bool ok, .int .i64 E.op, .int .i64 E.of_, .string E.holder, .int .i64 E.kind, .slice a2 E.secs.length c2, .string E.text] 26)
  have HG : Hid (EvAt ((w.alloc (.cells #[.bool ok, .int .i64 E.op, .int .i64 E.of_, .string E.holder, .int .i64 E.kind, .slice a1 E.secs.length c1, .string E.text] 26)).alloc (.cells #[.bool ok, .int .i64 E.op, .int .i64 E.of_, .string E.holder, .int .i64 E.kind, .slice a2 E.secs.length c2, .string E.text] 26)) (.agg #[.int .i64 E.op, .int .i64 E.of_, .string E.holder, .int .i64 E.kind, .slice a1 E.secs.length c1, .string E.text]) E ∧ EvAt ((w.alloc (.cells #[.bool ok, .int .i64 E.op, .int .i64 E.of_, .string E.holder, .int .i64 E.kind, .slice a1 E.secs.length c1, .string E.text] 26)).alloc (.cells #[.bool ok, .int .i64 E.op, .int .i64 E.of_, .string E.holder, .int .i64 E.kind, .slice a2 E.secs.length c2, .string E.text] 26)) (.agg #[.int .i64 E.op, .int .i64 E.of_, .string E.holder, .int .i64 E.kind, .slice a2 E.secs.length c2, .string E.text]) E ∧ Below w.heap.size w ((w.alloc (.cells #[.bool ok, .int .i64 E.op, .int .i64 E.of_, .string E.holder, .int .i64 E.kind, .slice a1 E.secs.length c1, .string E.text] 26)).alloc (.cells #[.bool ok, .int .i64 E.op, .int .i64 E.of_, .string E.holder, .int .i64 E.kind, .slice a2 E.secs.length c2, .string E.text] 26))) := ⟨G1.below B2, G2.below B2, B2⟩
  clear G1 G2 B2
  have tk : (!(ok == ok)) = false := by cases ok <;> rfl
  have tk2 : (ok == ok) = true := by cases ok <;> rfl
  go_enter Tryd.func6, Tryd.ntmps6
  go_wp2_with fail
  refine (eqEvent_same _ _ E _ hn HG.out.1 HG.out.2.1).mono ?_
  rintro e w3 ⟨rfl, hb⟩
  have HB : Hid (Below w.heap.size w w3) := HG.out.2.2.trans (hb.mono (by simp; omega))
  clear hb HG
  go_wp2
  go_ret
  exact ⟨rfl, HB.out⟩

set_option maxHeartbeats 2000000 in
theorem markEventH_any (E : Ev) (ad : Option Addr) (c g : Nat) (k : Int) (w : World) (h0 : 0 ≤ k) (h1 : k + E.secs.length ≤ 4611686018427387904) (hd : 0 < E.secs.length → ad = some ⟨g, 0, none⟩) (hp : 0 < E.secs.length → Pre w g 3 E.secs.length (iV E.secs)) :
    Calls Tryd.prog 18 #[(.agg #[.int .i64 E.op, .int .i64 E.of_, .string E.holder, .int .i64 E.kind, .slice ad E.secs.length c, .string E.text]), .int .i64 k] w fun e w' => e = .returned (.int .i64 (k + E.secs.length)) ∧ (0 < E.secs.length → Pre w' g 3 E.secs.length (fun i => .int .i64 (k + i))) ∧ Fr (fun b => 0 < E.secs.length ∧ b = g) w w' := by
  have B1 := below1 w (.cells #[.int .i64 E.op, .int .i64 E.of_, .string E.holder, .int .i64 E.kind, .slice ad E.secs.length c, .string E.text] 24)
  go_enter Tryd.func18, Tryd.ntmps18
  go_wp2_with fail
  refine (markIntS_any ad c E.secs.length g (iV E.secs) k _ h0 h1 hd (fun p => (hp p).of_block (B1.block _ (hp p).lt))).mono ?_
  rintro e w1 ⟨rfl, hq, hf⟩
  have HF : Hid ((0 < E.secs.length → Pre w1 g 3 E.secs.length (fun i => .int .i64 (k + i))) ∧ Fr (fun b => 0 < E.secs.length ∧ b = g) w w1) := ⟨hq, (Fr.of_below B1).trans hf⟩
  clear hq hf B1 hp hd
  go_wp2
  go_ret
  exact ⟨rfl, HF.out.1, HF.out.2⟩

set_option maxHeartbeats 2000000 in
theorem markHeard_any (ok : Bool) (E : Ev) (ad : Option Addr) (c g : Nat) (k : Int) (w : World) (h0 : 0 ≤ k) (h1 : k + E.secs.length ≤ 4611686018427387904) (hd : 0 < E.secs.length → ad = some ⟨g, 0, none⟩) (hp : 0 < E.secs.length → Pre w g 3 E.secs.length (iV E.secs)) :
    Calls Tryd.prog 7 #[(.agg #[.bool ok, .int .i64 E.op, .int .i64 E.of_, .string E.holder, .int .i64 E.kind, .slice ad E.secs.length c, .string E.text]), .int .i64 k] w fun e w' => e = .returned (.int .i64 (k + E.secs.length)) ∧ (0 < E.secs.length → Pre w' g 3 E.secs.length (fun i => .int .i64 (k + i))) ∧ Fr (fun b => 0 < E.secs.length ∧ b = g) w w' := by
  have B1 := below1 w (.cells #[.bool ok, .int .i64 E.op, .int .i64 E.of_, .string E.holder, .int .i64 E.kind, .slice ad E.secs.length c, .string E.text] 26)
  have HM : Hid (Calls Tryd.prog 18 #[(.agg #[.int .i64 E.op, .int .i64 E.of_, .string E.holder, .int .i64 E.kind, .slice ad E.secs.length c, .string E.text]), .int .i64 k] (w.alloc (.cells #[.bool ok, .int .i64 E.op, .int .i64 E.of_, .string E.holder, .int .i64 E.kind, .slice ad E.secs.length c, .string E.text] 26)) fun e w' => e = .returned (.int .i64 (k + E.secs.length)) ∧ (0 < E.secs.length → Pre w' g 3 E.secs.length (fun i => .int .i64 (k + i))) ∧ Fr (fun b => 0 < E.secs.length ∧ b = g) (w.alloc (.cells #[.bool ok, .int .i64 E.op, .int .i64 E.of_, .string E.holder, .int .i64 E.kind, .slice ad E.secs.length c, .string E.text] 26)) w') := markEventH_any E ad c g k _ h0 h1 hd (fun p => (hp p).of_block (B1.block _ (hp p).lt))
  clear hp
  go_enter Tryd.func7, Tryd.ntmps7
  go_wp2_with fail
  refine HM.out.mono ?_
  rintro e w1 ⟨rfl, hq, hf⟩
  have HF : Hid ((0 < E.secs.length → Pre w1 g 3 E.secs.length (fun i => .int .i64 (k + i))) ∧ Fr (fun b => 0 < E.secs.length ∧ b = g) w w1) := ⟨hq, (Fr.of_below B1).trans hf⟩
  clear hq hf B1 hd HM
  go_wp2
  go_ret
  exact ⟨rfl, HF.out.1, HF.out.2⟩

set_option maxHeartbeats 2000000 in
theorem heldEventH_any (E : Ev) (ad : Option Addr) (c : Nat) (k : Int) (w : World) (h0 : 0 ≤ k) (h1 : k + E.secs.length ≤ 4611686018427387904) (G : Cells w ad E.secs.length (fun i => .int .i64 (k + i))) :
    Calls Tryd.prog 19 #[(.agg #[.int .i64 E.op, .int .i64 E.of_, .string E.holder, .int .i64 E.kind, .slice ad E.secs.length c, .string E.text]), .int .i64 k] w fun e w' => e = .returned (.int .i64 (k + E.secs.length)) ∧ Below w.heap.size w w' := by
  have B1 := below1 w (.cells #[.int .i64 E.op, .int .i64 E.of_, .string E.holder, .int .i64 E.kind, .slice ad E.secs.length c, .string E.text] 24)
  have hk : ¬ k + (E.secs.length : Int) < 0 := by omega
  go_enter Tryd.func19, Tryd.ntmps19
  go_wp2_with fail
  refine (heldIntS_any ad c E.secs.length k _ h0 h1 (G.below B1)).mono ?_
  rintro e w1 ⟨rfl, hb⟩
  have HF : Hid (Below w.heap.size w w1) := B1.trans (hb.mono B1.size)
  clear hb B1 G
  go_wp2
  go_ret
  exact ⟨rfl, HF.out⟩

set_option maxHeartbeats 2000000 in
theorem heldHeard_any (ok : Bool) (E : Ev) (ad : Option Addr) (c : Nat) (k : Int) (w : World) (h0 : 0 ≤ k) (h1 : k + E.secs.length ≤ 4611686018427387904) (G : Cells w ad E.secs.length (fun i => .int .i64 (k + i))) :
    Calls Tryd.prog 8 #[(.agg #[.bool ok, .int .i64 E.op, .int .i64 E.of_, .string E.holder, .int .i64 E.kind, .slice ad E.secs.length c, .string E.text]), .int .i64 k] w fun e w' => e = .returned (.int .i64 (k + E.secs.length)) ∧ Below w.heap.size w w' := by
  have B1 := below1 w (.cells #[.bool ok, .int .i64 E.op, .int .i64 E.of_, .string E.holder, .int .i64 E.kind, .slice ad E.secs.length c, .string E.text] 26)
  have hk : ¬ k + (E.secs.length : Int) < 0 := by omega
  have HM : Hid (Calls Tryd.prog 19 #[(.agg #[.int .i64 E.op, .int .i64 E.of_, .string E.holder, .int .i64 E.kind, .slice ad E.secs.length c, .string E.text]), .int .i64 k] (w.alloc (.cells #[.bool ok, .int .i64 E.op, .int .i64 E.of_, .string E.holder, .int .i64 E.kind, .slice ad E.secs.length c, .string E.text] 26)) fun e w' => e = .returned (.int .i64 (k + E.secs.length)) ∧ Below (w.alloc (.cells #[.bool ok, .int .i64 E.op, .int .i64 E.of_, .string E.holder, .int .i64 E.kind, .slice ad E.secs.length c, .string E.text] 26)).heap.size (w.alloc (.cells #[.bool ok, .int .i64 E.op, .int .i64 E.of_, .string E.holder, .int .i64 E.kind, .slice ad E.secs.length c, .string E.text] 26)) w') := heldEventH_any E ad c k _ h0 h1 (G.below B1)
  clear G
  go_enter Tryd.func8, Tryd.ntmps8
  go_wp2_with fail
  refine HM.out.mono ?_
  rintro e w1 ⟨rfl, hb⟩
  have HF : Hid (Below w.heap.size w w1) := B1.trans (hb.mono B1.size)
  clear hb B1 HM
  go_wp2
  go_ret
  exact ⟨rfl, HF.out⟩

theorem cells_of_pre {w : World} {ad : Option Addr} {n g : Nat} {V : Nat → Value} (hd : 0 < n → ad = some ⟨g, 0, none⟩) (hp : 0 < n → Pre w g 3 n V) : Cells w ad n V :=
  ⟨g, 0, hd, fun i hi => by rw [Nat.zero_add]; exact (hp (by omega)).cell hi⟩
theorem pre_fr {w w' : World} {n g : Nat} {V : Nat → Value} (hp : 0 < n → Pre w g 3 n V) (hb : Below w.heap.size w w') : 0 < n → Pre w' g 3 n V := fun h => (hp h).of_block (hb.block _ (hp h).lt)

set_option maxRecDepth 20000 in
set_option maxHeartbeats 8000000 in
theorem fnExactHear_walk (s : ByteArray) (w : World) (hg : Gl w) (hw : FWords w) (hT : Lib.TabIs Tryd.prog w "internal/strconv.uint64pow10" .u64 Lib.pow10Tab) (hG : 7 ≤ w.heap.size) :
    Calls Tryd.prog 3 #[.string s] w fun e w' => e = .returned (.bool true) ∧ Below w.heap.size w w' := by
  by_cases hs : s.size ≤ 1048576
  case neg =>
    have tz : decide ((1048576 : Int) < (s.size : Int)) = true := decide_eq_true (by omega)
    go_enter Tryd.func3, Tryd.ntmps3
    go_wp2
    go_ret
    exact ⟨rfl, Below.refl _ _⟩
  have tz : decide ((1048576 : Int) < (s.size : Int)) = false := decide_eq_false (by omega)
  have HG : Hid (Gl w ∧ FWords w ∧ Lib.TabIs Tryd.prog w "internal/strconv.uint64pow10" .u64 Lib.pow10Tab) := ⟨hg, hw, hT⟩
  have HI : Hid (∀ W, Below w.heap.size w W → Calls Tryd.prog 5 #[.string s] W fun e w' => RetH e w' W.heap.size (bl s) ∧ Below W.heap.size W w') := fun W hb => by
    have F : Fr (fun _ => False) w W := ⟨hb.os, hb.tape, hb.output, hb.size, fun i hi _ => hb.block i hi⟩
    exact implHear_any s W hs (HG.out.1.fr F (fun _ e => e.elim)) (HG.out.2.1.fr F (fun _ e => e.elim)) (tab_below HG.out.2.2 hb) (Nat.le_trans hG hb.size)
  clear hg hw hT HG
  go_enter Tryd.func3, Tryd.ntmps3
  go_wp2_with fail
  refine (specHear_any s w hs).mono ?_
  rintro e w1 ⟨hr1, hb1⟩
  obtain ⟨ok, E, a0, n0, hans, rfl, hown1⟩ := retH_is hr1
  have E1 : EvAt w1 (.agg #[.int .i64 E.op, .int .i64 E.of_, .string E.holder, .int .i64 E.kind, .slice a0 E.secs.length n0, .string E.text]) E := evW_at ⟨_, rfl, hown1⟩
  have hsec := hans.secs
  have HA : Hid (AnsIs (bl s) ok E) := hans
  have s1 : (w1.alloc (.cells #[.bool ok, .int .i64 E.op, .int .i64 E.of_, .string E.holder, .int .i64 E.kind, .slice a0 E.secs.length n0, .string E.text] 26)).heap.size = w1.heap.size + 1 := by simp
  -- W0: the world behind spec's answer
  obtain ⟨W0, hW0⟩ : ∃ W, W = w1.alloc (.cells #[.bool ok, .int .i64 E.op, .int .i64 E.of_, .string E.holder, .int .i64 E.kind, .slice a0 E.secs.length n0, .string E.text] 26) := ⟨_, rfl⟩
  have H0 : Hid (Below w.heap.size w W0 ∧ EvAt W0 (.agg #[.int .i64 E.op, .int .i64 E.of_, .string E.holder, .int .i64 E.kind, .slice a0 E.secs.length n0, .string E.text]) E ∧ W0.heap[w1.heap.size]? = some (.cells #[.bool ok, .int .i64 E.op, .int .i64 E.of_, .string E.holder, .int .i64 E.kind, .slice a0 E.secs.length n0, .string E.text] 26 (0, 0)) ∧ w1.heap.size < W0.heap.size) := by
    rw [hW0]
    exact ⟨hb1.trans ((below1 w1 _).mono hb1.size), E1.below (below1 _ _), Deep.blk_alloc_new _ _, by simp⟩
  have hW0' : w1.alloc (.cells #[.bool ok, .int .i64 E.op, .int .i64 E.of_, .string E.holder, .int .i64 E.kind, .slice a0 E.secs.length n0, .string E.text] 26) = W0 := hW0.symm
  have z0 : w.heap.size ≤ w1.heap.size := hb1.size
  clear hr1 hb1 hown1 E1 hans s1 hW0
  go_wp2_with fail
  try rw [hW0']
  clear hW0'
  refine (HI.out W0 H0.out.1).mono ?_
  rintro e w2 ⟨hr2, hb2⟩
  obtain ⟨ok', E', a4, n4, hans2, rfl, hown2⟩ := retH_is hr2
  obtain ⟨rfl, rfl⟩ := HA.out.same hans2
  obtain ⟨g, ad', c', hsl, hpre⟩ := ownL_of hown2
  simp only [Value.slice.injEq, true_and] at hsl
  obtain ⟨rfl, rfl⟩ := hsl
  obtain ⟨W2, hW2⟩ : ∃ W, W = w2.alloc (.cells #[.bool ok, .int .i64 E.op, .int .i64 E.of_, .string E.holder, .int .i64 E.kind, .slice a4 E.secs.length n4, .string E.text] 26) := ⟨_, rfl⟩
  have H2 : Hid (Below W0.heap.size W0 W2 ∧ EvAt W2 (.agg #[.int .i64 E.op, .int .i64 E.of_, .string E.holder, .int .i64 E.kind, .slice a4 E.secs.length n4, .string E.text]) E ∧ W2.heap[w2.heap.size]? = some (.cells #[.bool ok, .int .i64 E.op, .int .i64 E.of_, .string E.holder, .int .i64 E.kind, .slice a4 E.secs.length n4, .string E.text] 26 (0, 0)) ∧ (0 < E.secs.length → a4 = some ⟨g, 0, none⟩) ∧ (0 < E.secs.length → W0.heap.size ≤ g ∧ g < w2.heap.size) ∧ (0 < E.secs.length → Pre W2 g 3 E.secs.length (iV E.secs)) ∧ w2.heap.size < W2.heap.size ∧ W0.heap.size ≤ w2.heap.size) := by
    rw [hW2]
    exact ⟨hb2.trans ((below1 w2 _).mono hb2.size), (evW_at ⟨_, rfl, hown2⟩).below (below1 _ _), Deep.blk_alloc_new _ _, fun p => (hpre p).1, fun p => ⟨(hpre p).2.1, (hpre p).2.2.lt⟩, pre_fr (fun p => (hpre p).2.2) (below1 _ _), by simp, hb2.size⟩
  have hW2' : w2.alloc (.cells #[.bool ok, .int .i64 E.op, .int .i64 E.of_, .string E.holder, .int .i64 E.kind, .slice a4 E.secs.length n4, .string E.text] 26) = W2 := hW2.symm
  clear hr2 hb2 hans2 hown2 hpre hW2
  obtain ⟨p0, p1, p2, p3, p4, p5, p6⟩ := heard_cells (H2.out.1.block _ H0.out.2.2.2 |>.trans H0.out.2.2.1)
  obtain ⟨q0, q1, q2, q3, q4, q5, q6⟩ := heard_cells H2.out.2.2.1
  have HE : Hid (Calls Tryd.prog 6 #[(.agg #[.bool ok, .int .i64 E.op, .int .i64 E.of_, .string E.holder, .int .i64 E.kind, .slice a4 E.secs.length n4, .string E.text]), (.agg #[.bool ok, .int .i64 E.op, .int .i64 E.of_, .string E.holder, .int .i64 E.kind, .slice a0 E.secs.length n0, .string E.text])] W2 fun e w' => e = .returned (.bool true) ∧ Below W2.heap.size W2 w') := eqHeard_same ok E a4 a0 n4 n0 W2 (by omega) H2.out.2.1 (H0.out.2.1.below H2.out.1)
  have zz0 := H0.out.2.2.2
  have zz2 := H2.out.2.2.2.2.2.2
  go_wp2_with fail
  try rw [hW2']
  clear hW2'
  refine HE.out.mono ?_
  rintro e w3 ⟨rfl, hb3⟩
  have H3 : Hid (Below W2.heap.size W2 w3) := hb3
  clear hb3 HE p0 p1 p2 p3 p4 p5 p6 q0 q1 q2 q3 q4 q5 q6
  obtain ⟨q0, q1, q2, q3, q4, q5, q6⟩ := heard_cells (H3.out.block _ zz2.1 |>.trans H2.out.2.2.1)
  have HM : Hid (Calls Tryd.prog 7 #[(.agg #[.bool ok, .int .i64 E.op, .int .i64 E.of_, .string E.holder, .int .i64 E.kind, .slice a4 E.secs.length n4, .string E.text]), .int .i64 1] w3 fun e w' => e = .returned (.int .i64 (1 + E.secs.length)) ∧ (0 < E.secs.length → Pre w' g 3 E.secs.length (fun i => .int .i64 (1 + i))) ∧ Fr (fun b => 0 < E.secs.length ∧ b = g) w3 w') := markHeard_any ok E a4 n4 g 1 w3 (by omega) (by omega) H2.out.2.2.2.1 (pre_fr H2.out.2.2.2.2.2.1 H3.out)
  go_wp2_with fail
  refine HM.out.mono ?_
  rintro e w4 ⟨rfl, hp4, hf4⟩
  have z3 : W2.heap.size ≤ w3.heap.size := H3.out.size
  -- behind the marks
  have H4 : Hid (Below W0.heap.size W0 w4 ∧ (0 < E.secs.length → Pre w4 g 3 E.secs.length (fun i => .int .i64 (1 + i))) ∧ w4.heap[w2.heap.size]? = some (.cells #[.bool ok, .int .i64 E.op, .int .i64 E.of_, .string E.holder, .int .i64 E.kind, .slice a4 E.secs.length n4, .string E.text] 26 (0, 0)) ∧ w2.heap.size < w4.heap.size) := by
    have h1 : Below W0.heap.size W0 w3 := H2.out.1.trans (H3.out.mono (by omega))
    refine ⟨h1.trans (hf4.below (by omega) (fun i e => by have := (H2.out.2.2.2.2.1 e.1).1; omega)), hp4, ?_, by have := hf4.size; omega⟩
    exact (hf4.block _ (by omega) (fun e => by have := (H2.out.2.2.2.2.1 e.1).2; have := e.2; omega)).trans ((H3.out.block _ zz2.1).trans H2.out.2.2.1)
  clear hp4 hf4 HM q0 q1 q2 q3 q4 q5 q6
  obtain ⟨q0, q1, q2, q3, q4, q5, q6⟩ := heard_cells H4.out.2.2.1
  have HH : Hid (∀ W, Below w4.heap.size w4 W → Calls Tryd.prog 8 #[(.agg #[.bool ok, .int .i64 E.op, .int .i64 E.of_, .string E.holder, .int .i64 E.kind, .slice a4 E.secs.length n4, .string E.text]), .int .i64 1] W fun e w' => e = .returned (.int .i64 (1 + E.secs.length)) ∧ Below W.heap.size W w') := fun W hb => heldHeard_any ok E a4 n4 1 W (by omega) (by omega) (cells_of_pre H2.out.2.2.2.1 (pre_fr H4.out.2.1 hb))
  have hk : ¬ (1 : Int) + (E.secs.length : Int) < 0 := by omega
  have tk : decide ((1 : Int) + (E.secs.length : Int) < 0) = false := decide_eq_false hk
  go_wp2_with fail
  refine (HH.out w4 (Below.refl _ _)).mono ?_
  rintro e w5 ⟨rfl, hb5⟩
  have H5 : Hid (Below w4.heap.size w4 w5) := hb5
  have z5 : w4.heap.size ≤ w5.heap.size := hb5.size
  have zz4 := H4.out.2.2.2
  clear hb5 q0 q1 q2 q3 q4 q5 q6
  have b5 : Below W0.heap.size W0 w5 := H4.out.1.trans (H5.out.mono (by omega))
  have HI5 := HI.out w5 (H0.out.1.trans (b5.mono (by omega)))
  have HB5 : Hid (Below W0.heap.size W0 w5) := b5
  have HI6 : Hid (Calls Tryd.prog 5 #[.string s] w5 fun e w' => RetH e w' w5.heap.size (bl s) ∧ Below w5.heap.size w5 w') := HI5
  clear b5 HI5
  go_wp2_with fail
  refine HI6.out.mono ?_
  rintro e w6 ⟨hr6, hb6⟩
  obtain ⟨ok', E', a7, n7, hans7, rfl, hown7⟩ := retH_is hr6
  obtain ⟨rfl, rfl⟩ := HA.out.same hans7
  obtain ⟨W6, hW6⟩ : ∃ W, W = w6.alloc (.cells #[.bool ok, .int .i64 E.op, .int .i64 E.of_, .string E.holder, .int .i64 E.kind, .slice a7 E.secs.length n7, .string E.text] 26) := ⟨_, rfl⟩
  have H6 : Hid (Below w4.heap.size w4 W6 ∧ EvAt W6 (.agg #[.int .i64 E.op, .int .i64 E.of_, .string E.holder, .int .i64 E.kind, .slice a7 E.secs.length n7, .string E.text]) E ∧ W6.heap[w6.heap.size]? = some (.cells #[.bool ok, .int .i64 E.op, .int .i64 E.of_, .string E.holder, .int .i64 E.kind, .slice a7 E.secs.length n7, .string E.text] 26 (0, 0)) ∧ w6.heap.size < W6.heap.size ∧ w5.heap.size ≤ w6.heap.size) := by
    rw [hW6]
    exact ⟨H5.out.trans ((hb6.trans ((below1 w6 _).mono hb6.size)).mono z5), (evW_at ⟨_, rfl, hown7⟩).below (below1 _ _), Deep.blk_alloc_new _ _, by simp, hb6.size⟩
  have hW6' : w6.alloc (.cells #[.bool ok, .int .i64 E.op, .int .i64 E.of_, .string E.holder, .int .i64 E.kind, .slice a7 E.secs.length n7, .string E.text] 26) = W6 := hW6.symm
  clear hr6 hb6 hans7 hown7 hW6 HI6
  have zz6 := H6.out.2.2.2
  have B06 : Below W0.heap.size W0 W6 := H4.out.1.trans (H6.out.1.mono (by omega))
  obtain ⟨p0, p1, p2, p3, p4, p5, p6⟩ := heard_cells (B06.block _ zz0 |>.trans H0.out.2.2.1)
  obtain ⟨r0, r1, r2, r3, r4, r5, r6⟩ := heard_cells H6.out.2.2.1
  have HE7 : Hid (Calls Tryd.prog 6 #[(.agg #[.bool ok, .int .i64 E.op, .int .i64 E.of_, .string E.holder, .int .i64 E.kind, .slice a7 E.secs.length n7, .string E.text]), (.agg #[.bool ok, .int .i64 E.op, .int .i64 E.of_, .string E.holder, .int .i64 E.kind, .slice a0 E.secs.length n0, .string E.text])] W6 fun e w' => e = .returned (.bool true) ∧ Below W6.heap.size W6 w') := eqHeard_same ok E a7 a0 n7 n0 W6 (by omega) H6.out.2.1 (H0.out.2.1.below B06)
  have HB06 : Hid (Below W0.heap.size W0 W6) := B06
  clear B06
  go_wp2_with fail
  try rw [hW6']
  clear hW6'
  refine HE7.out.mono ?_
  rintro e w7 ⟨rfl, hb7⟩
  have H7 : Hid (Below w4.heap.size w4 w7 ∧ Below w.heap.size w w7) := ⟨H6.out.1.trans (hb7.mono (by omega)), (H0.out.1.trans (HB06.out.mono (by omega))).trans (hb7.mono (by omega))⟩
  clear hb7 HE7 p0 p1 p2 p3 p4 p5 p6 r0 r1 r2 r3 r4 r5 r6
  obtain ⟨q0, q1, q2, q3, q4, q5, q6⟩ := heard_cells (H7.out.1.block _ zz4 |>.trans H4.out.2.2.1)
  go_wp2_with fail
  refine (HH.out w7 H7.out.1).mono ?_
  rintro e w8 ⟨rfl, hb8⟩
  have H8 : Hid (Below w.heap.size w w8) := H7.out.2.trans (hb8.mono H7.out.2.size)
  clear hb8
  go_wp2
  go_ret
  exact ⟨rfl, H8.out⟩

end Go.Proofs.YtbcfmehcghkpiaaDoor
