import Derived.Test.YtbgmgfnhmlpehaaDoorOk
import Derived.Test.YtbgmgfnhmlpehaaDoorRoundM
import Derived.Test.YtbgmgfnhmlpehaaDoorOpenL
import Derived.Test.YtbgmgfnhmlpehaaDoorIDo6
import Derived.Test.YtbgmgfnhmlpehaaDoorIText2
import Derived.Test.YtbgmgfnhmlpehaaDoorSText
import Derived.Test.YtbgmgfnhmlpehaaDoorBegin
import Derived.Test.YtbgmgfnhmlpehaaDoorErr
import Derived.Test.YtbgmgfnhmlpehaaDoorRows
import Derived.LaidLaws
import Derived.Lib.LaidTab
import Derived.Lib.ItoaNum
import Derived.Stop.LaidErr
import Derived.OpenVars
import Derived.Test.YtbgmgfnhmlpehaaDoorOpen
import Derived.Test.YtbgmgfnhmlpehaaDoorCards
import Derived.Test.YtbgmgfnhmlpehaaDoorTie
import Derived.ProofKit
import Derived.OpenShut
import Derived.ChangeOld
import Derived.Below
import Derived.Deep.DeepHandedRow
/-
  The bytes that a law draws from, and laws.wByte. Mine, by template (wip/gen.py).
-/
namespace Go.Proofs.YtbgmgfnhmlpehaaDoor
open Go.RowKit

/-- n bytes from where a slice begins. -/
def BytesAt (w : World) (ad : Option Addr) (n : Nat) (V : Nat → UInt8) : Prop := Cells w ad n (fun i => .int .u8 ((V i).toNat : Int))

/-- A number of one byte. -/
def RetR (e : Ending) : Prop := ∃ r : Nat, e = .returned (.int .i64 (r : Int)) ∧ r ≤ 255

theorem wByte_any (ad : Option Addr) (c n i : Nat) (V : Nat → UInt8) (w : World) (hn : n ≤ 1048576) (G : BytesAt w ad n V) :
    Calls Tryd.prog 12 #[.slice ad n c, .int .i64 (i : Int)] w fun e w' => RetR e ∧ w' = w := by
  obtain ⟨b, o, hd, g⟩ := G
  by_cases h0 : n = 0
  · subst h0
    go_enter Tryd.func12, Tryd.ntmps12
    go_wp2
    go_ret
    exact ⟨⟨0, rfl, by omega⟩, rfl⟩
  · obtain rfl := hd (by omega)
    have t0 : ((n : Int) == 0) = false := by simpa using h0
    have hlt : i % n < n := Nat.mod_lt _ (by omega)
    have x := g (i % n) hlt
    have tm : Int.tmod (i : Int) (n : Int) = ((i % n : Nat) : Int) := (Int.ofNat_tmod i n).symm
    have nz : ¬ (n : Int) = 0 := by omega
    have vb : (V (i % n)).toNat ≤ 255 := by have := (V (i % n)).toNat_lt; omega
    have HV : Hid ((V (i % n)).toNat ≤ 255) := vb
    clear g hd h0
    go_enter Tryd.func12, Tryd.ntmps12
    go_wp2
    go_ret
    exact ⟨⟨(V (i % n)).toNat, rfl, HV.out⟩, rfl⟩

end Go.Proofs.YtbgmgfnhmlpehaaDoor

/-
  laws.FnRound: the walk out of contracts. Mine, by program (wip/lround.py), by template (wip/gen.py).
-/
namespace Go.Proofs.YtbgmgfnhmlpehaaDoor
open Go.RowKit

/-- The sections drawn so far. -/
def SecL (k : Nat) (L : List Int) : Prop := Asc L.length (fun i => L.getD i 0) (k : Int) ∧ L.length ≤ k

theorem getD_left (L : List Int) (x : Int) (i : Nat) (h : i < L.length) : (L ++ [x]).getD i 0 = L.getD i 0 := by
  simp [List.getD_eq_getElem?_getD, List.getElem?_append_left h]
theorem getD_last (L : List Int) (x : Int) : (L ++ [x]).getD L.length 0 = x := by simp [List.getD_eq_getElem?_getD]

theorem SecL.step {k : Nat} {L : List Int} (h : SecL k L) : SecL (k + 1) L :=
  ⟨fun i hi => ⟨(h.1 i hi).1, by have h2 := (h.1 i hi).2.1; simp only at h2 ⊢; omega, (h.1 i hi).2.2⟩, by have := h.2; omega⟩

theorem SecL.push {k : Nat} {L : List Int} (h : SecL k L) : SecL (k + 1) (L ++ [(k : Int)]) := by
  refine ⟨fun i hi => ?_, by have := h.2; simp; omega⟩
  have hl : (L ++ [(k : Int)]).length = L.length + 1 := by simp
  rw [hl] at hi
  show 0 ≤ (L ++ [(k : Int)]).getD i 0 ∧ (L ++ [(k : Int)]).getD i 0 ≤ ((k + 1 : Nat) : Int) - 1 ∧ (0 < i → (L ++ [(k : Int)]).getD (i - 1) 0 < (L ++ [(k : Int)]).getD i 0)
  by_cases e : i = L.length
  · subst e
    rw [getD_last]
    refine ⟨by omega, by omega, fun hp => ?_⟩
    rw [getD_left _ _ _ (by omega)]
    have h2 := (h.1 (L.length - 1) (by omega)).2.1
    simp only at h2
    omega
  · rw [getD_left _ _ _ (by omega)]
    have h2 := h.1 i (by omega)
    simp only at h2
    refine ⟨h2.1, by omega, fun hp => ?_⟩
    rw [getD_left _ _ _ (by omega)]
    exact h2.2.2 hp

theorem SecL.rdL {n : Nat} {L : List Int} (h : SecL n L) (h0 : L ≠ []) (hn : n ≤ 20) : RdL n L :=
  ⟨h.1, List.length_pos_iff.2 h0, by have := h.2; omega⟩

theorem fr_one {a w : World} {P i : Nat} {u : Value} (h : Fr (fun x => x = P) a w) : Fr (fun x => x = P) a (w.setCell ⟨P, i, none⟩ u) := h.setCell (p := ⟨P, i, none⟩) rfl _

/-- The world when a new book is stored in the book's variable. -/
def putB (y : World) (P : Nat) (B : Bk) (ao : Option Addr) (co : Nat) (al : Option Addr) (cl : Nat) (ac : Option Addr) (cc : Nat) : World := (((y.setCell ⟨P, 0, none⟩ (.int .i64 B.n)).setCell ⟨P, 1, none⟩ (.slice ao B.orders.length co)).setCell ⟨P, 2, none⟩ (.slice al B.locked.length cl)).setCell ⟨P, 3, none⟩ (.slice ac B.occ.length cc)
theorem putB_fr (y : World) (P : Nat) (B : Bk) (ao : Option Addr) (co : Nat) (al : Option Addr) (cl : Nat) (ac : Option Addr) (cc : Nat) : Fr (fun x => x = P) y (putB y P B ao co al cl ac cc) := fr_one (fr_one (fr_one (fr_one (Fr.refl _ _))))
theorem putB_box {y : World} {P : Nat} {B : Bk} {ao : Option Addr} {co : Nat} {al : Option Addr} {cl : Nat} {ac : Option Addr} {cc : Nat} {z0 z1 z2 z3 : Value} (h : y.heap[P]? = some (.cells #[z0, z1, z2, z3] 29 (0, 0))) : (putB y P B ao co al cl ac cc).heap[P]? = some (.cells #[.int .i64 B.n, .slice ao B.orders.length co, .slice al B.locked.length cl, .slice ac B.occ.length cc] 29 (0, 0)) :=
  (box_set (box_set (box_set (box_set h _) _) _) _).trans rfl

/-- What lies at the head of the second loop and behind it: the book's variable P. -/
structure BAt (w w1 wr : World) (P : Nat) (B : Bk) (ao : Option Addr) (co : Nat) (al : Option Addr) (cl : Nat) (ac : Option Addr) (cc : Nat) (K : Blk) : Prop where
  box : wr.heap[P]? = some (.cells #[.int .i64 B.n, .slice ao B.orders.length co, .slice al B.locked.length cl, .slice ac B.occ.length cc] 29 (0, 0))
  own : OwnBook wr w.heap.size (.agg #[.int .i64 B.n, .slice ao B.orders.length co, .slice al B.locked.length cl, .slice ac B.occ.length cc]) B K
  dis : ∀ x, bookBlocks B K x → x ≠ P
  bel : Below P w1 wr
  wP : w.heap.size ≤ P

theorem BAt.put {w w1 wr y : World} {P : Nat} {B B' : Bk} {ao ao' : Option Addr} {co co' : Nat} {al al' : Option Addr} {cl cl' : Nat} {ac ac' : Option Addr} {cc cc' : Nat} {K K' : Blk} (h : BAt w w1 wr P B ao co al cl ac cc K) (hb : Below wr.heap.size wr y)
    (ho : OwnBook y wr.heap.size (.agg #[.int .i64 B'.n, .slice ao' B'.orders.length co', .slice al' B'.locked.length cl', .slice ac' B'.occ.length cc']) B' K') : BAt w w1 (putB y P B' ao' co' al' cl' ac' cc') P B' ao' co' al' cl' ac' cc' K' := by
  have hP : P < wr.heap.size := (Array.getElem?_eq_some_iff.1 h.box).1
  have hw := h.wP
  have hne : ∀ x, bookBlocks B' K' x → x ≠ P := fun x hx => by have := ho.blocks_low hx; omega
  have pf := putB_fr y P B' ao' co' al' cl' ac' cc'
  refine ⟨putB_box ((hb.block _ hP).trans h.box), (ho.fr pf (fun x hx e => hne x hx e)).mono (by omega), hne, ?_, hw⟩
  exact (h.bel.trans (hb.mono (by omega))).trans (pf.below (by have := hb.size; omega) (fun x e => by omega))

theorem ev_none (w : World) (op of_ kind : Int) (h t : ByteArray) : EvAt w (.agg #[.int .i64 op, .int .i64 of_, .string h, .int .i64 kind, .slice none 0 0, .string t]) ⟨op, of_, h, kind, [], t⟩ :=
  ⟨none, 0, rfl, 0, 0, fun h => absurd h (by simp), fun i hi => absurd hi (by simp)⟩

theorem rd0_small (n : Nat) (occ : List Bool) : (rd0 n occ).orders.length ≤ 1048576 ∧ ∀ i, i < (rd0 n occ).orders.length → (bX (rd0 n occ) i).secs.length ≤ 1048576 ∧ (bX (rd0 n occ) i).holder.size ≤ 1048576 :=
  ⟨by simp [rd0], fun i hi => absurd hi (by simp [rd0])⟩
theorem rd1_small {n : Nat} {occ : List Bool} {L : List Int} {st : Int} (hL : RdL n L) : (rd1 n occ L st).orders.length ≤ 1048576 ∧ ∀ i, i < (rd1 n occ L st).orders.length → (bX (rd1 n occ L st) i).secs.length ≤ 1048576 ∧ (bX (rd1 n occ L st) i).holder.size ≤ 1048576 := by
  refine ⟨by rw [rd1_len]; decide, fun i hi => ?_⟩
  rw [rd1_len] at hi
  obtain rfl : i = 0 := by omega
  rw [rd1_bX]
  refine ⟨?_, (show annB.size ≤ 1048576 by decide)⟩
  have h20 : L.length ≤ 20 := hL.2.2
  show L.length ≤ 1048576
  omega

theorem begin_rd0 {N : Nat} (h1 : 1 ≤ N) (h2 : N ≤ 20) : beginBk (N : Int) = rd0 N (List.replicate N false) := by
  unfold beginBk rd0
  rw [if_pos ⟨by omega, by omega⟩]
  simp

/-- The text with one letter changed. -/
theorem bent_ne {l : List UInt8} {k : Nat} (hk : k < l.length) : l.take k ++ [l[k] ^^^ 1] ++ l.drop (k + 1) ≠ l := fun e => by
  have h := congrArg (·[k]?) e
  simp only [List.append_assoc] at h
  rw [List.getElem?_append_right (by rw [List.length_take]; exact Nat.min_le_left _ _), List.length_take, Nat.min_eq_left (Nat.le_of_lt hk), Nat.sub_self, List.getElem?_eq_getElem hk] at h
  simp only [List.cons_append, List.getElem?_cons_zero, Option.some.injEq] at h
  have h2 := congrArg (fun x : UInt8 => x.toNat.testBit 0) h
  simp [UInt8.toNat_xor] at h2
  omega

theorem ord_state {w : World} {lo : Nat} {N : Nat} {occ : List Bool} {L : List Int} {st : Int} {K : Blk} {ao : Option Addr} {co : Nat} {al : Option Addr} {cl : Nat} {ac : Option Addr} {cc : Nat} (h : OwnBook w lo (.agg #[.int .i64 (rd1 N occ L st).n, .slice ao (rd1 N occ L st).orders.length co, .slice al (rd1 N occ L st).locked.length cl, .slice ac (rd1 N occ L st).occ.length cc]) (rd1 N occ L st) K) : ao = some ⟨K.G, 0, none⟩ ∧ w.cell? ⟨K.G, 3, none⟩ = some (.int .i64 st) := by
  obtain ⟨ao', co', al', cl', ac', cc', hv, h1, -, -⟩ := h.shape
  obtain ⟨g1, -, -⟩ := ord_facts h (i := 0) (by rw [rd1_len]; omega)
  simp only [Value.agg.injEq, Array.mk.injEq, List.cons.injEq, Value.slice.injEq, and_true, true_and] at hv
  obtain ⟨⟨rfl, -⟩, -⟩ := hv
  refine ⟨h1.head (by rw [rd1_len]; omega), ?_⟩
  show w.cell? ⟨K.G, 3, none⟩ = some (.int .i64 (bX (rd1 N occ L st) 0).state)
  simpa using g1.c3

theorem bk_shape {w : World} {a b c d : Value} {B : Bk} (h : BookAt w (.agg #[a, b, c, d]) B) : ∃ ao co al cl ac cc, a = .int .i64 B.n ∧ b = .slice ao B.orders.length co ∧ c = .slice al B.locked.length cl ∧ d = .slice ac B.occ.length cc := by
  obtain ⟨ao, co, al, cl, ac, cc, e, -⟩ := h
  simp only [Value.agg.injEq, Array.mk.injEq, List.cons.injEq, and_true] at e
  exact ⟨ao, co, al, cl, ac, cc, e.1, e.2.1, e.2.2.1, e.2.2.2⟩

theorem Tryd.field_book (a b c d e : Value) (w : World) : (Instr.field 34 (.agg #[a, b, c, d, e]) 1).run Tryd.prog w = .ok (.agg #[b, c, d, e]) w := by kernel_rfl
theorem Tryd.field_code (a b c d e : Value) (w : World) : (Instr.field 34 (.agg #[a, b, c, d, e]) 0).run Tryd.prog w = .ok a w := by kernel_rfl
theorem xor_u8 : ∀ n : Nat, n < 256 → bits .xor .u8 (n : Int) 1 = ((n ^^^ 1 : Nat) : Int) := by decide +kernel
theorem conv_one (b : UInt8) (w : World) : Sem.run Tryd.prog (convert 22 9 (.slice (some ⟨w.heap.size, 0, none⟩) 1 1)) (w.alloc (.cells #[.int .u8 ((b.toNat ^^^ 1 : Nat) : Int)] 5)).drew = .ok (.string ⟨#[b ^^^ 1]⟩) (w.alloc (.cells #[.int .u8 ((b.toNat ^^^ 1 : Nat) : Int)] 5)).drew :=
  run_convert_bytes_back (P := Tryd.prog) (w.alloc (.cells #[.int .u8 ((b.toNat ^^^ 1 : Nat) : Int)] 5)).drew 22 9 5 ⟨w.heap.size, 0, none⟩ 1 [b ^^^ 1] Tryd.underlying22 Tryd.underlying5 Tryd.underlying9 (fun j hj => by
    obtain rfl : j = 0 := by simp at hj; omega
    show (w.alloc _).drew.cell? ⟨w.heap.size, 0, none⟩ = some (.int .u8 ((b ^^^ 1).toNat : Int))
    rw [UInt8.toNat_xor]
    simp [go_sem])
theorem bent_bl {tx : ByteArray} {q : Nat} {b : UInt8} (hq : q < tx.size) (hb : b = tx[q]) : bl (tx.extract 0 q ++ ⟨#[b ^^^ 1]⟩ ++ tx.extract (q + 1) tx.size) = (bl tx).take q ++ [(bl tx)[q]'(by rw [bl_size]; exact hq) ^^^ 1] ++ (bl tx).drop (q + 1) := by
  rw [bl_append, bl_append]
  have e0 : bl (tx.extract 0 q) = (bl tx).take q := by simp [bl, ByteArray.data_extract, Array.toList_extract, List.extract]
  have e1 : bl (tx.extract (q + 1) tx.size) = (bl tx).drop (q + 1) := by
    simp only [bl, ByteArray.data_extract, Array.toList_extract, List.extract]
    exact List.take_of_length_le (by simp)
  have e2 : (bl tx)[q]'(by rw [bl_size]; exact hq) = b := by rw [hb]; rfl
  rw [e0, e1, e2]
  rfl
theorem bent_size {tx : ByteArray} {q : Nat} {b : UInt8} (hq : q < tx.size) (hb : b = tx[q]) : (tx.extract 0 q ++ ⟨#[b ^^^ 1]⟩ ++ tx.extract (q + 1) tx.size).size = tx.size := by
  rw [← bl_size, bent_bl hq hb]
  have := bl_size tx
  simp
  omega
theorem e_size : ByteArray.empty.size ≤ 1048576 := by decide
theorem ann_size : annB.size ≤ 1048576 := by decide
theorem bob_size : bobB.size ≤ 1048576 := by decide

theorem dcells5 {w : World} {p : Nat} {a b c d e : Value} {t : TypeId} (h : w.heap[p]? = some (.cells #[a, b, c, d, e] t (0, 0))) :
    w.cell? ⟨p, 0, none⟩ = some a ∧ w.cell? ⟨p, 1, none⟩ = some b ∧ w.cell? ⟨p, 2, none⟩ = some c ∧ w.cell? ⟨p, 3, none⟩ = some d ∧ w.cell? ⟨p, 4, none⟩ = some e := by
  simp [World.cell?, h]

theorem text_ord {n : Nat} {occ : List Bool} {L : List Int} {l : List UInt8} (hr : Rd n occ) (hL : RdL n L) (h : TextIs (rd1 n occ L 2) 0 l) : OrdT (rd1 n occ L 2) 0 l := by
  rcases h with ⟨no, _⟩ | ⟨_, j, e, _, h⟩
  · exact absurd ⟨rd1_right hr hL ⟨by decide, by decide⟩, by omega, by rw [rd1_len]; decide⟩ no
  · obtain rfl : j = 0 := by omega
    exact h

set_option maxRecDepth 20000 in
set_option maxHeartbeats 16000000 in
theorem fnRound_walk (A : Nat → Addr) (ad : Option Addr) (c n : Nat) (V : Nat → UInt8) (w : World) (hE : Errs w A) (hT : Lib.TabIs Tryd.prog w "internal/strconv.uint64pow10" .u64 Lib.pow10Tab) (G : BytesAt w ad n V) :
    Calls Tryd.prog 5 #[.slice ad n c] w fun e w' => e = .returned (.bool true) ∧ Below w.heap.size w w' := by
  have HG : Hid (BytesAt w ad n V ∧ Errs w A ∧ Lib.TabIs Tryd.prog w "internal/strconv.uint64pow10" .u64 Lib.pow10Tab) := ⟨G, hE, hT⟩
  clear G hE hT
  obtain ⟨i0, hi, hz0, hz1, hz2⟩ := info_parts Tryd.infoInt
  have fb := Tryd.field_book
  have fc := Tryd.field_code
  go_enter Tryd.func5, Tryd.ntmps5
  by_cases hbig : 1048576 < n
  · have t : (1048576 : Int) < (n : Int) := by omega
    go_wp2
    go_ret
    exact ⟨rfl, Below.refl _ _⟩
  have hn : n ≤ 1048576 := by omega
  have tb : ¬ (1048576 : Int) < (n : Int) := by omega
  clear hbig
  go_wp2_with fail
  refine (show Calls Tryd.prog 12 #[.slice ad n c, .int .i64 0] w _ from wByte_any ad c n 0 V w hn HG.out.1).mono ?_
  rintro e w' ⟨⟨r0, rfl, hr0⟩, hw'⟩
  obtain rfl := hw'.symm
  obtain ⟨N, hN, hN1, hN2⟩ : ∃ N : Nat, 1 + (r0 : Int) % 20 = (N : Int) ∧ 1 ≤ N ∧ N ≤ 20 := ⟨1 + r0 % 20, by omega, by omega, by omega⟩
  go_wp2
  have HN : Hid (1 + (r0 : Int) % 20 = (N : Int)) := hN
  clear hN tb
  try rw [HN.out]
  go_loopw [4, 5] (fun u i wr => ∃ (k : Nat) (L : List Int) (v : Value), k ≤ N ∧ i = .int .i64 k ∧ u = v ∧ wr.ownsRow w.heap.size 3 1 v L.length (L.map (Value.int .i64)) ∧ SecL k L ∧ (k = N → L ≠ []) ∧ Below w.heap.size w wr) (fun _ i _ => N - (intOf i).toNat)
  case atStart => exact ⟨0, [], _, Nat.zero_le _, rfl, rfl, World.ownsRow_nil _ _ _ _, ⟨fun i hi => absurd hi (by simp), by simp⟩, fun e => by omega, Below.refl _ _⟩
  case round =>
    obtain ⟨k, L, u3, hk, rfl, hu, hown, hL, hne, hb⟩ := hrel
    obtain rfl := hu.symm
    by_cases hlt : k < N
    · have HL : Hid (wr.ownsRow w.heap.size 3 1 u3 L.length (L.map (Value.int .i64)) ∧ SecL k L ∧ Below w.heap.size w wr) := ⟨hown, hL, hb⟩
      have hll : L.length ≤ k := hL.2
      obtain ⟨gL, adL, cpL, rfl, -⟩ := ownL_of hown
      clear hown hL hne hb
      go_wp2_with fail
      refine (show Calls Tryd.prog 12 #[.slice ad n c, .int .i64 ((k : Int) + 1)] wr _ from wByte_any ad c n (k + 1) V wr hn (HG.out.1.below HL.out.2.2)).mono ?_
      rintro e w' ⟨⟨r, rfl, hr⟩, hw'⟩
      obtain rfl := hw'.symm
      by_cases ht : (r : Int) % 2 = 0
      · have tt : ((r : Int) % 2 == 0) = true := by simpa using ht
        clear ht
        go_wp2_with (at_builtin; refine wpList_append_own _ rfl _ _ 35 rfl w.heap.size 3 i0 (.int .i64 0) 1 8 Tryd.underlying35 hi hz0 hz1 hz2 rfl (by decide) _ _ _ rfl (HL.out.1.alloc _) ⟨wr.heap.size, 0, none⟩ 1 1 [.int .i64 (k : Int)] rfl rfl (cell_one_new _ _ _) (ints_oneCell .i64 [(k : Int)]) (by unfold maxLen; omega) (by omega) (by have := HL.out.2.2.size; simp; omega) ?_; intro v' w5 hown5 hgrow5 _)
        go_roundw
        case rel =>
          refine ⟨k + 1, L ++ [(k : Int)], _, by omega, by go_num, rfl, ?_, HL.out.2.1.push, fun _ e => by simp at e, (HL.out.2.2.alloc HL.out.2.2.size _).grown hgrow5 (by have := HL.out.2.2.size; simp; omega) (fun j hj => ownBlock_low HL.out.1 hj)⟩
          simpa using hown5
        case measure => simp [intOf]; omega
      · by_cases hs : (k : Int) = (N : Int) - 1
        · by_cases hl0 : L.length = 0
          · have ts : ((k : Int) == (N : Int) - 1) = true := by simpa using hs
            have tl : ((L.length : Int) == 0) = true := len0_t hl0
            have tt : ((r : Int) % 2 == 0) = false := by simpa using ht
            clear ht hs hl0
            go_wp2_with (at_builtin; refine wpList_append_own _ rfl _ _ 35 rfl w.heap.size 3 i0 (.int .i64 0) 1 8 Tryd.underlying35 hi hz0 hz1 hz2 rfl (by decide) _ _ _ rfl (HL.out.1.alloc _) ⟨wr.heap.size, 0, none⟩ 1 1 [.int .i64 (k : Int)] rfl rfl (cell_one_new _ _ _) (ints_oneCell .i64 [(k : Int)]) (by unfold maxLen; omega) (by omega) (by have := HL.out.2.2.size; simp; omega) ?_; intro v' w5 hown5 hgrow5 _)
            go_roundw
            case rel =>
              refine ⟨k + 1, L ++ [(k : Int)], _, by omega, by go_num, rfl, ?_, HL.out.2.1.push, fun _ e => by simp at e, (HL.out.2.2.alloc HL.out.2.2.size _).grown hgrow5 (by have := HL.out.2.2.size; simp; omega) (fun j hj => ownBlock_low HL.out.1 hj)⟩
              simpa using hown5
            case measure => simp [intOf]; omega
          · have ts : ((k : Int) == (N : Int) - 1) = true := by simpa using hs
            have tl : ((L.length : Int) == 0) = false := len0_f hl0
            have tt : ((r : Int) % 2 == 0) = false := by simpa using ht
            have HZ : Hid (¬ L.length = 0) := hl0
            clear ht hs hl0
            go_wp2
            go_roundw
            case rel => exact ⟨k + 1, L, _, by omega, by go_num, rfl, HL.out.1, HL.out.2.1.step, fun _ e => HZ.out (by rw [e]; rfl), HL.out.2.2⟩
            case measure => simp [intOf]; omega
        · have ts : ((k : Int) == (N : Int) - 1) = false := by simpa using hs
          have tt : ((r : Int) % 2 == 0) = false := by simpa using ht
          have HZ : Hid (¬ (k : Int) = (N : Int) - 1) := hs
          clear ht hs
          go_wp2
          go_roundw
          case rel => exact ⟨k + 1, L, _, by omega, by go_num, rfl, HL.out.1, HL.out.2.1.step, fun e => absurd (by omega) HZ.out, HL.out.2.2⟩
          case measure => simp [intOf]; omega
    · obtain rfl : k = N := by omega
      have hL1 := hL.rdL (hne rfl) hN2
      obtain ⟨gL, adL, cpL, rfl, hgL⟩ := ownL_of hown
      have hlen : L.length ≤ 20 := hL1.2.2
      have t20 : ¬ (20 : Int) < (L.length : Int) := by omega
      have HL : Hid (RdL k L ∧ Cells wr adL L.length (iV L) ∧ Below w.heap.size w wr) := ⟨hL1, pre_cells (fun p => ⟨(hgL p).1, (hgL p).2.2⟩), hb⟩
      clear hown hL hne hb hL1 hgL hlt hk
      -- b := impl.Begin(n)
      go_wp2_with fail
      refine (implBegin_any (k : Int) wr).mono ?_
      rintro e w1 ⟨v, rfl, ⟨K0, hB0⟩, hb1⟩
      rw [begin_rd0 hN1 hN2] at hB0
      obtain ⟨ao0, co0, al0, cl0, ac0, cc0, hv, -⟩ := hB0.shape
      subst hv
      have bw1 : Below w.heap.size w w1 := below_trans HL.out.2.2 HL.out.2.2.size hb1
      have HI : Hid (BAt w w1 (w1.alloc (.cells #[.int .i64 (rd0 k (List.replicate k false)).n, .slice ao0 (rd0 k (List.replicate k false)).orders.length co0, .slice al0 (rd0 k (List.replicate k false)).locked.length cl0, .slice ac0 (rd0 k (List.replicate k false)).occ.length cc0] 29)) w1.heap.size (rd0 k (List.replicate k false)) ao0 co0 al0 cl0 ac0 cc0 K0) := ⟨Deep.blk_alloc_new _ _, (hB0.mono HL.out.2.2.size).below (below1 _ _), fun x hx => by have := hB0.blocks_lt hx; omega, below1 _ _, bw1.size⟩
      have HC : Hid (RdL k L ∧ Cells w1 adL L.length (iV L)) := ⟨HL.out.1, HL.out.2.1.below hb1⟩
      have hlen : L.length ≤ 20 := HL.out.1.2.2
      clear hB0 hb1 HL t20
      go_wp2
      go_loopw [7] (fun i wr2 => ∃ (j : Nat) (occ : List Bool) (ao : Option Addr) (co : Nat) (al : Option Addr) (cl : Nat) (ac : Option Addr) (cc : Nat) (K : Blk), j ≤ k ∧ i = .int .i64 j ∧ Rd k occ ∧ BAt w w1 wr2 w1.heap.size (rd0 k occ) ao co al cl ac cc K) (fun i _ => k - (intOf i).toNat)
      case atStart => exact ⟨0, _, _, _, _, _, _, _, _, Nat.zero_le _, rfl, ⟨hN1, hN2, by simp⟩, HI.out⟩
      case round =>
        obtain ⟨wr2, hw2⟩ : ∃ x, x = wr := ⟨_, rfl⟩
        subst hw2
        obtain ⟨j, occ, ao2, co2, al2, cl2, ac2, cc2, K2, hj, rfl, R, hB⟩ := hrel
        have bwr : Below w.heap.size w wr2 := bw1.trans (hB.bel.mono bw1.size)
        have HB : Hid (BAt w w1 wr2 w1.heap.size (rd0 k occ) ao2 co2 al2 cl2 ac2 cc2 K2) := hB
        obtain ⟨p0, p1, p2, p3⟩ := box_cells hB.box
        have zP : w1.heap.size < wr2.heap.size := (Array.getElem?_eq_some_iff.1 hB.box).1
        have HR : Hid (Rd k occ) := R
        clear hB HI R
        by_cases hlt : j < k
        · go_wp2_with fail
          refine (show Calls Tryd.prog 12 #[.slice ad n c, .int .i64 ((j : Int) + 30)] wr2 _ from wByte_any ad c n (j + 30) V wr2 hn (HG.out.1.below bwr)).mono ?_
          rintro e w' ⟨⟨r, rfl, hr⟩, hw'⟩
          obtain rfl := hw'.symm
          by_cases ht : (r : Int) % 3 = 0
          · have tt : ((r : Int) % 3 == 0) = true := by simpa using ht
            clear ht
            go_wp2_with fail
            refine (implDo_any A _ _ (rd0 k occ) (evOcc j) wr2 (HG.out.2.1.below bwr) (tab_below HG.out.2.2 bwr) (rd0_small k occ) e_size e_size (Nat.zero_le _) HB.out.own.bookAt (ev_none _ 8 j 0 _ _)).mono ?_
            rintro e w2 ⟨a3, b3, c3, d3, K3, rfl, ho, hb2⟩
            rw [do_occ HR.out hlt] at ho
            obtain ⟨ao3, co3, al3, cl3, ac3, cc3, rfl, rfl, rfl, rfl⟩ := bk_shape ho.bookAt
            have xP := (hb2.block _ zP).trans HB.out.box
            have HP : Hid (BAt w w1 (putB w2 w1.heap.size (rd0 k (occ.set j true)) ao3 co3 al3 cl3 ac3 cc3) w1.heap.size (rd0 k (occ.set j true)) ao3 co3 al3 cl3 ac3 cc3 K3) := HB.out.put hb2 ho
            clear p0 p1 p2 p3 ho hb2
            obtain ⟨p0, p1, p2, p3⟩ := box_cells xP
            have fP : ∀ i, w2.frozen? ⟨w1.heap.size, i, none⟩ = false := fun i => frozen_of_box xP
            have fP0 := fP 0
            have fP1 := fP 1
            have fP2 := fP 2
            have fP3 := fP 3
            clear fP xP
            go_wp2
            go_roundw
            case rel => exact ⟨j + 1, occ.set j true, _, _, _, _, _, _, _, by omega, by go_num, rd_set HR.out j, HP.out⟩
            case measure => simp [intOf]; omega
          · have tt : ((r : Int) % 3 == 0) = false := by simpa using ht
            clear ht
            go_wp2
            go_roundw
            case rel => exact ⟨j + 1, occ, _, _, _, _, _, _, _, by omega, by go_num, HR.out, HB.out⟩
            case measure => simp [intOf]; omega
        · obtain rfl : k = j := by omega
          clear hlt hj
          -- b = impl.Do(b, write).Book
          go_wp2_with fail
          refine (implDo_any A _ _ (rd0 k occ) (evWrite L) wr2 (HG.out.2.1.below bwr) (tab_below HG.out.2.2 bwr) (rd0_small k occ) ann_size e_size (by show L.length ≤ 1048576; omega) HB.out.own.bookAt ⟨adL, cpL, rfl, HC.out.2.below HB.out.bel⟩).mono ?_
          rintro e w4 ⟨a4, b4, c4, d4, K4, rfl, ho, hb4⟩
          rw [do_write HR.out HC.out.1] at ho
          obtain ⟨ao4, co4, al4, cl4, ac4, cc4, rfl, rfl, rfl, rfl⟩ := bk_shape ho.bookAt
          have xP := (hb4.block _ zP).trans HB.out.box
          have HP : Hid (BAt w w1 (putB w4 w1.heap.size (rd1 k occ L 1) ao4 co4 al4 cl4 ac4 cc4) w1.heap.size (rd1 k occ L 1) ao4 co4 al4 cl4 ac4 cc4 K4) := HB.out.put hb4 ho
          clear p0 p1 p2 p3 ho hb4
          obtain ⟨p0, p1, p2, p3⟩ := box_cells xP
          have fP : ∀ i, w4.frozen? ⟨w1.heap.size, i, none⟩ = false := fun i => frozen_of_box xP
          have fP0 := fP 0
          have fP1 := fP 1
          have fP2 := fP 2
          have fP3 := fP 3
          clear fP xP
          -- g := impl.Do(b, give)
          go_wp2_with fail
          have bw5 : Below w.heap.size w (putB w4 w1.heap.size (rd1 k occ L 1) ao4 co4 al4 cl4 ac4 cc4) := bw1.trans (HP.out.bel.mono bw1.size)
          refine (show Calls Tryd.prog 13 #[.agg #[.int .i64 (rd1 k occ L 1).n, .slice ao4 (rd1 k occ L 1).orders.length co4, .slice al4 (rd1 k occ L 1).locked.length cl4, .slice ac4 (rd1 k occ L 1).occ.length cc4], .agg #[.int .i64 2, .int .i64 0, .string ByteArray.empty, .int .i64 0, .slice none 0 0, .string ByteArray.empty]] (putB w4 w1.heap.size (rd1 k occ L 1) ao4 co4 al4 cl4 ac4 cc4) _ from implDo_any A _ _ (rd1 k occ L 1) evGive _ (HG.out.2.1.below bw5) (tab_below HG.out.2.2 bw5) (rd1_small HC.out.1) e_size e_size (Nat.zero_le _) HP.out.own.bookAt (ev_none _ 2 0 0 _ _)).mono ?_
          rintro e w6 ⟨a6, b6, c6, d6, K6, rfl, ho, hb6⟩
          rw [do_give HR.out HC.out.1] at ho
          have cg : (doP (rd1 k occ L 1) evGive).1 = 0 := by rw [do_give HR.out HC.out.1]
          rw [cg]
          obtain ⟨ao6, co6, al6, cl6, ac6, cc6, rfl, rfl, rfl, rfl⟩ := bk_shape ho.bookAt
          have bw6 : Below w.heap.size w w6 := below_trans bw5 bw5.size hb6
          have b67 := below1 w6 (.cells #[.int .i64 0, .int .i64 (rd1 k occ L 2).n, .slice ao6 (rd1 k occ L 2).orders.length co6, .slice al6 (rd1 k occ L 2).locked.length cl6, .slice ac6 (rd1 k occ L 2).occ.length cc6] 34)
          have H6 : Hid (BookAt (w6.alloc (.cells #[.int .i64 0, .int .i64 (rd1 k occ L 2).n, .slice ao6 (rd1 k occ L 2).orders.length co6, .slice al6 (rd1 k occ L 2).locked.length cl6, .slice ac6 (rd1 k occ L 2).occ.length cc6] 34)) (.agg #[.int .i64 (rd1 k occ L 2).n, .slice ao6 (rd1 k occ L 2).orders.length co6, .slice al6 (rd1 k occ L 2).locked.length cl6, .slice ac6 (rd1 k occ L 2).occ.length cc6]) (rd1 k occ L 2) ∧ (w6.alloc (.cells #[.int .i64 0, .int .i64 (rd1 k occ L 2).n, .slice ao6 (rd1 k occ L 2).orders.length co6, .slice al6 (rd1 k occ L 2).locked.length cl6, .slice ac6 (rd1 k occ L 2).occ.length cc6] 34)).heap[w6.heap.size]? = some (.cells #[.int .i64 0, .int .i64 (rd1 k occ L 2).n, .slice ao6 (rd1 k occ L 2).orders.length co6, .slice al6 (rd1 k occ L 2).locked.length cl6, .slice ac6 (rd1 k occ L 2).occ.length cc6] 34 (0, 0)) ∧ Below w.heap.size w (w6.alloc (.cells #[.int .i64 0, .int .i64 (rd1 k occ L 2).n, .slice ao6 (rd1 k occ L 2).orders.length co6, .slice al6 (rd1 k occ L 2).locked.length cl6, .slice ac6 (rd1 k occ L 2).occ.length cc6] 34))) := ⟨ho.bookAt.below b67, Deep.blk_alloc_new _ _, below_trans bw6 bw6.size b67⟩
          have s6 : (w6.alloc (.cells #[.int .i64 0, .int .i64 (rd1 k occ L 2).n, .slice ao6 (rd1 k occ L 2).orders.length co6, .slice al6 (rd1 k occ L 2).locked.length cl6, .slice ac6 (rd1 k occ L 2).occ.length cc6] 34)).heap.size = w6.heap.size + 1 := alloc_size _ _
          clear p0 p1 p2 p3 fP0 fP1 fP2 fP3 ho hb6 bw6 b67 bw5 HP HB bwr cg zP
          -- text := impl.OrderText(g.Book, 0)
          go_wp2_with fail
          refine (implOrderText_any _ (rd1 k occ L 2) 0 _ (rd1_small HC.out.1).1 (rd1_small HC.out.1).2 (tab_below HG.out.2.2 H6.out.2.2) H6.out.1).mono ?_
          rintro e w7 ⟨⟨tx, rfl, hT⟩, hb7⟩
          have OT : OrdT (rd1 k occ L 2) 0 (bl tx) := text_ord HR.out HC.out.1 hT
          have htl := text_len HR.out HC.out.1 OT
          rw [bl_size] at htl
          have ht1 := htl.1
          have ht2 := htl.2
          have HT : Hid (TextIs (rd1 k occ L 2) 0 (bl tx) ∧ OrdT (rd1 k occ L 2) 0 (bl tx)) := ⟨hT, OT⟩
          have x7 := (hb7.block _ (by omega : w6.heap.size < (w6.alloc (.cells #[.int .i64 0, .int .i64 (rd1 k occ L 2).n, .slice ao6 (rd1 k occ L 2).orders.length co6, .slice al6 (rd1 k occ L 2).locked.length cl6, .slice ac6 (rd1 k occ L 2).occ.length cc6] 34)).heap.size)).trans H6.out.2.1
          have bw7 := below_trans H6.out.2.2 H6.out.2.2.size hb7
          have z67 : w6.heap.size < w7.heap.size := by have := hb7.size; omega
          have H7 : Hid (BookAt w7 (.agg #[.int .i64 (rd1 k occ L 2).n, .slice ao6 (rd1 k occ L 2).orders.length co6, .slice al6 (rd1 k occ L 2).locked.length cl6, .slice ac6 (rd1 k occ L 2).occ.length cc6]) (rd1 k occ L 2) ∧ w7.heap[w6.heap.size]? = some (.cells #[.int .i64 0, .int .i64 (rd1 k occ L 2).n, .slice ao6 (rd1 k occ L 2).orders.length co6, .slice al6 (rd1 k occ L 2).locked.length cl6, .slice ac6 (rd1 k occ L 2).occ.length cc6] 34 (0, 0))) := ⟨H6.out.1.below hb7, x7⟩
          obtain ⟨q0, q1, q2, q3, q4⟩ := dcells5 x7
          clear hT OT htl x7 hb7 H6 s6
          -- h := impl.Do(g.Book, repeat)
          go_wp2_with fail
          refine (implDo_any A _ _ (rd1 k occ L 2) (evRep annB tx) w7 (HG.out.2.1.below bw7) (tab_below HG.out.2.2 bw7) (rd1_small HC.out.1) ann_size (by show tx.size ≤ 1048576; omega) (Nat.zero_le _) H7.out.1 (ev_none _ 3 0 0 _ _)).mono ?_
          rintro e w8 ⟨a8, b8, c8, d8, K8, rfl, ho, hb8⟩
          rw [do_rep HR.out HC.out.1 ht2 HT.out.2] at ho
          have cg : (doP (rd1 k occ L 2) (evRep annB tx)).1 = 0 := by rw [do_rep HR.out HC.out.1 ht2 HT.out.2]
          rw [cg]
          obtain ⟨ao8, co8, al8, cl8, ac8, cc8, rfl, rfl, rfl, rfl⟩ := bk_shape ho.bookAt
          have bw8 := below_trans bw7 bw7.size hb8
          have b89 := below1 w8 (.cells #[.int .i64 0, .int .i64 (rd1 k occ L 3).n, .slice ao8 (rd1 k occ L 3).orders.length co8, .slice al8 (rd1 k occ L 3).locked.length cl8, .slice ac8 (rd1 k occ L 3).occ.length cc8] 34)
          have s8 : (w8.alloc (.cells #[.int .i64 0, .int .i64 (rd1 k occ L 3).n, .slice ao8 (rd1 k occ L 3).orders.length co8, .slice al8 (rd1 k occ L 3).locked.length cl8, .slice ac8 (rd1 k occ L 3).occ.length cc8] 34)).heap.size = w8.heap.size + 1 := alloc_size _ _
          have z78 : w6.heap.size < w8.heap.size := Nat.lt_of_lt_of_le z67 hb8.size
          have H8 : Hid (BookAt (w8.alloc (.cells #[.int .i64 0, .int .i64 (rd1 k occ L 3).n, .slice ao8 (rd1 k occ L 3).orders.length co8, .slice al8 (rd1 k occ L 3).locked.length cl8, .slice ac8 (rd1 k occ L 3).occ.length cc8] 34)) (.agg #[.int .i64 (rd1 k occ L 3).n, .slice ao8 (rd1 k occ L 3).orders.length co8, .slice al8 (rd1 k occ L 3).locked.length cl8, .slice ac8 (rd1 k occ L 3).occ.length cc8]) (rd1 k occ L 3) ∧ (w8.alloc (.cells #[.int .i64 0, .int .i64 (rd1 k occ L 3).n, .slice ao8 (rd1 k occ L 3).orders.length co8, .slice al8 (rd1 k occ L 3).locked.length cl8, .slice ac8 (rd1 k occ L 3).occ.length cc8] 34)).heap[w8.heap.size]? = some (.cells #[.int .i64 0, .int .i64 (rd1 k occ L 3).n, .slice ao8 (rd1 k occ L 3).orders.length co8, .slice al8 (rd1 k occ L 3).locked.length cl8, .slice ac8 (rd1 k occ L 3).occ.length cc8] 34 (0, 0)) ∧ BookAt (w8.alloc (.cells #[.int .i64 0, .int .i64 (rd1 k occ L 3).n, .slice ao8 (rd1 k occ L 3).orders.length co8, .slice al8 (rd1 k occ L 3).locked.length cl8, .slice ac8 (rd1 k occ L 3).occ.length cc8] 34)) (.agg #[.int .i64 (rd1 k occ L 2).n, .slice ao6 (rd1 k occ L 2).orders.length co6, .slice al6 (rd1 k occ L 2).locked.length cl6, .slice ac6 (rd1 k occ L 2).occ.length cc6]) (rd1 k occ L 2) ∧ (w8.alloc (.cells #[.int .i64 0, .int .i64 (rd1 k occ L 3).n, .slice ao8 (rd1 k occ L 3).orders.length co8, .slice al8 (rd1 k occ L 3).locked.length cl8, .slice ac8 (rd1 k occ L 3).occ.length cc8] 34)).heap[w6.heap.size]? = some (.cells #[.int .i64 0, .int .i64 (rd1 k occ L 2).n, .slice ao6 (rd1 k occ L 2).orders.length co6, .slice al6 (rd1 k occ L 2).locked.length cl6, .slice ac6 (rd1 k occ L 2).occ.length cc6] 34 (0, 0)) ∧ Below w.heap.size w (w8.alloc (.cells #[.int .i64 0, .int .i64 (rd1 k occ L 3).n, .slice ao8 (rd1 k occ L 3).orders.length co8, .slice al8 (rd1 k occ L 3).locked.length cl8, .slice ac8 (rd1 k occ L 3).occ.length cc8] 34))) := ⟨ho.bookAt.below b89, Deep.blk_alloc_new _ _, (H7.out.1.below hb8).below b89, (b89.block _ z78).trans ((hb8.block _ z67).trans H7.out.2), below_trans bw8 bw8.size b89⟩
          clear q0 q1 q2 q3 q4 ho hb8 bw8 b89 H7 z67 bw7 cg
          -- r := impl.Do(h.Book, back)
          go_wp2_with fail
          refine (implDo_any A _ _ (rd1 k occ L 3) evBack _ (HG.out.2.1.below H8.out.2.2.2.2) (tab_below HG.out.2.2 H8.out.2.2.2.2) (rd1_small HC.out.1) ann_size e_size (Nat.zero_le _) H8.out.1 (ev_none _ 4 0 0 _ _)).mono ?_
          rintro e w9 ⟨a9, b9, c9, d9, K9, rfl, ho, hb9⟩
          rw [do_back HR.out HC.out.1] at ho
          have cg : (doP (rd1 k occ L 3) evBack).1 = 0 := by rw [do_back HR.out HC.out.1]
          rw [cg]
          obtain ⟨ao9, co9, al9, cl9, ac9, cc9, rfl, rfl, rfl, rfl⟩ := bk_shape ho.bookAt
          obtain ⟨rfl, st9⟩ := ord_state ho
          have zK : K9.G < w9.heap.size := World.block_lt_of_cell? _ _ st9
          have xg := (hb9.block _ (by omega : w6.heap.size < (w8.alloc (.cells #[.int .i64 0, .int .i64 (rd1 k occ L 3).n, .slice ao8 (rd1 k occ L 3).orders.length co8, .slice al8 (rd1 k occ L 3).locked.length cl8, .slice ac8 (rd1 k occ L 3).occ.length cc8] 34)).heap.size)).trans H8.out.2.2.2.1
          have xh := (hb9.block _ (by omega : w8.heap.size < (w8.alloc (.cells #[.int .i64 0, .int .i64 (rd1 k occ L 3).n, .slice ao8 (rd1 k occ L 3).orders.length co8, .slice al8 (rd1 k occ L 3).locked.length cl8, .slice ac8 (rd1 k occ L 3).occ.length cc8] 34)).heap.size)).trans H8.out.2.1
          have bw9 := below_trans H8.out.2.2.2.2 H8.out.2.2.2.2.size hb9
          have z9 : w8.heap.size < w9.heap.size := by have := hb9.size; omega
          have z69 : w6.heap.size < w9.heap.size := by omega
          have b9A := below1 w9 (.cells #[.int .i64 0, .int .i64 (rd1 k occ L 4).n, .slice (some ⟨K9.G, 0, none⟩) (rd1 k occ L 4).orders.length co9, .slice al9 (rd1 k occ L 4).locked.length cl9, .slice ac9 (rd1 k occ L 4).occ.length cc9] 34)
          have H9 : Hid (BookAt (w9.alloc (.cells #[.int .i64 0, .int .i64 (rd1 k occ L 4).n, .slice (some ⟨K9.G, 0, none⟩) (rd1 k occ L 4).orders.length co9, .slice al9 (rd1 k occ L 4).locked.length cl9, .slice ac9 (rd1 k occ L 4).occ.length cc9] 34)) (.agg #[.int .i64 (rd1 k occ L 2).n, .slice ao6 (rd1 k occ L 2).orders.length co6, .slice al6 (rd1 k occ L 2).locked.length cl6, .slice ac6 (rd1 k occ L 2).occ.length cc6]) (rd1 k occ L 2) ∧ w9.heap[w6.heap.size]? = some (.cells #[.int .i64 0, .int .i64 (rd1 k occ L 2).n, .slice ao6 (rd1 k occ L 2).orders.length co6, .slice al6 (rd1 k occ L 2).locked.length cl6, .slice ac6 (rd1 k occ L 2).occ.length cc6] 34 (0, 0)) ∧ Below w.heap.size w (w9.alloc (.cells #[.int .i64 0, .int .i64 (rd1 k occ L 4).n, .slice (some ⟨K9.G, 0, none⟩) (rd1 k occ L 4).orders.length co9, .slice al9 (rd1 k occ L 4).locked.length cl9, .slice ac9 (rd1 k occ L 4).occ.length cc9] 34)) ∧ (w9.alloc (.cells #[.int .i64 0, .int .i64 (rd1 k occ L 4).n, .slice (some ⟨K9.G, 0, none⟩) (rd1 k occ L 4).orders.length co9, .slice al9 (rd1 k occ L 4).locked.length cl9, .slice ac9 (rd1 k occ L 4).occ.length cc9] 34)).heap[w6.heap.size]? = some (.cells #[.int .i64 0, .int .i64 (rd1 k occ L 2).n, .slice ao6 (rd1 k occ L 2).orders.length co6, .slice al6 (rd1 k occ L 2).locked.length cl6, .slice ac6 (rd1 k occ L 2).occ.length cc6] 34 (0, 0))) := ⟨(H8.out.2.2.1.below hb9).below b9A, xg, below_trans bw9 bw9.size b9A, (b9A.block _ z69).trans xg⟩
          have s9 : (w9.alloc (.cells #[.int .i64 0, .int .i64 (rd1 k occ L 4).n, .slice (some ⟨K9.G, 0, none⟩) (rd1 k occ L 4).orders.length co9, .slice al9 (rd1 k occ L 4).locked.length cl9, .slice ac9 (rd1 k occ L 4).occ.length cc9] 34)).heap.size = w9.heap.size + 1 := alloc_size _ _
          have o1 : ((rd1 k occ L 4).orders.length : Int) = 1 := rfl
          obtain ⟨q0, q1, q2, q3, q4⟩ := dcells5 xg
          obtain ⟨m0, m1, m2, m3, m4⟩ := dcells5 xh
          clear m1 m2 m3 m4 ho hb9 H8 s8 xg xh bw9 b9A cg z78
          go_wp2_with fail
          refine (specOrderText_any _ (rd1 k occ L 2) 0 _ (rd1_small HC.out.1).1 (rd1_small HC.out.1).2 (show -9223372036854775808 ≤ (k : Int) ∧ (k : Int) ≤ 9223372036854775807 from ⟨by omega, by omega⟩) H9.out.1).mono ?_
          rintro e wA ⟨⟨tx', rfl, hT'⟩, hbA⟩
          obtain rfl : tx = tx' := bl_inj (HT.out.1.det hT')
          have xgA := (hbA.block _ (by omega : w6.heap.size < (w9.alloc (.cells #[.int .i64 0, .int .i64 (rd1 k occ L 4).n, .slice (some ⟨K9.G, 0, none⟩) (rd1 k occ L 4).orders.length co9, .slice al9 (rd1 k occ L 4).locked.length cl9, .slice ac9 (rd1 k occ L 4).occ.length cc9] 34)).heap.size)).trans H9.out.2.2.2
          have bwA := below_trans H9.out.2.2.1 H9.out.2.2.1.size hbA
          have HA : Hid (BookAt wA (.agg #[.int .i64 (rd1 k occ L 2).n, .slice ao6 (rd1 k occ L 2).orders.length co6, .slice al6 (rd1 k occ L 2).locked.length cl6, .slice ac6 (rd1 k occ L 2).occ.length cc6]) (rd1 k occ L 2) ∧ wA.heap[w6.heap.size]? = some (.cells #[.int .i64 0, .int .i64 (rd1 k occ L 2).n, .slice ao6 (rd1 k occ L 2).orders.length co6, .slice al6 (rd1 k occ L 2).locked.length cl6, .slice ac6 (rd1 k occ L 2).occ.length cc6] 34 (0, 0))) := ⟨H9.out.1.below hbA, xgA⟩
          have zA : w6.heap.size < wA.heap.size := by have := hbA.size; omega
          have tn : (tx.toList == tx.toList) = true := by simp
          have t0 : ((tx.size : Int) == 0) = false := len0_f (by omega)
          have nz : ¬ (tx.size : Int) = 0 := by omega
          clear q0 q1 q2 q3 q4 m0 hbA H9 st9 zK hT' o1 s9 z9 z69
          obtain ⟨q0, q1, q2, q3, q4⟩ := dcells5 xgA
          clear xgA
          -- k := wByte(code, 60) % len(text)
          go_wp2_with fail
          refine (show Calls Tryd.prog 12 #[.slice ad n c, .int .i64 60] wA _ from wByte_any ad c n 60 V wA hn (HG.out.1.below bwA)).mono ?_
          rintro e w' ⟨⟨r, rfl, hr⟩, hw'⟩
          obtain rfl := hw'.symm
          obtain ⟨q, hq, hq2⟩ : ∃ q : Nat, (r : Int) % (tx.size : Int) = (q : Int) ∧ q < tx.size := ⟨r % tx.size, by simp, Nat.mod_lt _ (by omega)⟩
          go_wp2
          rw [hq]
          clear hq nz
          obtain ⟨b, hb⟩ : ∃ b : UInt8, b = tx[q] := ⟨_, rfl⟩
          have hx : bits .xor .u8 (b.toNat : Int) 1 = ((b.toNat ^^^ 1 : Nat) : Int) := xor_u8 _ b.toNat_lt
          have cv := conv_one b wA
          have ti : ((tx[q].toNat : Nat) : Int) = ((b.toNat : Nat) : Int) := by rw [hb]
          have hle : q ≤ tx.size := by omega
          have hle1 : q + 1 ≤ tx.size := by omega
          have HQ : Hid (b = tx[q]) := hb
          clear hb
          go_region
          obtain ⟨x, hxe⟩ : ∃ x, x = tx.extract 0 q ++ ⟨#[b ^^^ 1]⟩ ++ tx.extract (q + 1) tx.size := ⟨_, rfl⟩
          rw [← hxe]
          have hxs : x.size = tx.size := by rw [hxe]; exact bent_size hq2 HQ.out
          have HX : Hid (¬ OrdT (rd1 k occ L 2) 0 (bl x)) := fun h => by
            have e := h.det HT.out.2
            rw [hxe, bent_bl hq2 HQ.out] at e
            exact bent_ne (by rw [bl_size]; exact hq2) e
          clear hxe cv hx ti HQ
          have bW : Below wA.heap.size wA (wA.alloc (.cells #[.int .u8 ((b.toNat ^^^ 1 : Nat) : Int)] 5)).drew := (below1 _ _).drew
          have sW : (wA.alloc (.cells #[.int .u8 ((b.toNat ^^^ 1 : Nat) : Int)] 5)).drew.heap.size = wA.heap.size + 1 := alloc_size _ _
          have xW := (bW.block _ zA).trans HA.out.2
          have bwW := below_trans bwA bwA.size bW
          have HW : Hid (BookAt (wA.alloc (.cells #[.int .u8 ((b.toNat ^^^ 1 : Nat) : Int)] 5)).drew (.agg #[.int .i64 (rd1 k occ L 2).n, .slice ao6 (rd1 k occ L 2).orders.length co6, .slice al6 (rd1 k occ L 2).locked.length cl6, .slice ac6 (rd1 k occ L 2).occ.length cc6]) (rd1 k occ L 2)) := HA.out.1.below bW
          obtain ⟨W, hW⟩ : ∃ W, W = (wA.alloc (.cells #[.int .u8 ((b.toNat ^^^ 1 : Nat) : Int)] 5)).drew := ⟨_, rfl⟩
          rw [← hW] at bW sW xW bwW HW ⊢
          clear hW q0 q1 q2 q3 q4 bW HA
          have zW : w6.heap.size < W.heap.size := by omega
          obtain ⟨q0, q1, q2, q3, q4⟩ := dcells5 xW
          -- v := impl.Do(g.Book, the bent text)
          go_wp2_with fail
          refine (implDo_any A _ _ (rd1 k occ L 2) (evRep annB x) W (HG.out.2.1.below bwW) (tab_below HG.out.2.2 bwW) (rd1_small HC.out.1) ann_size (by show x.size ≤ 1048576; omega) (Nat.zero_le _) HW.out (ev_none _ 3 0 0 _ _)).mono ?_
          rintro e wB ⟨aB, bB, cB, dB, KB, rfl, ho, hbB⟩
          rw [do_rep_no HR.out HC.out.1 (by omega) HX.out] at ho
          have cg : (doP (rd1 k occ L 2) (evRep annB x)).1 = 4 := by rw [do_rep_no HR.out HC.out.1 (by omega) HX.out]
          rw [cg]
          obtain ⟨aoB, coB, alB, clB, acB, ccB, rfl, rfl, rfl, rfl⟩ := bk_shape ho.bookAt
          obtain ⟨rfl, stB⟩ := ord_state ho
          have zK : KB.G < wB.heap.size := World.block_lt_of_cell? _ _ stB
          have xB := (hbB.block _ zW).trans xW
          have bwB := below_trans bwW bwW.size hbB
          have zB : w6.heap.size < wB.heap.size := Nat.lt_of_lt_of_le zW hbB.size
          have bBC := below1 wB (.cells #[.int .i64 4, .int .i64 (rd1 k occ L 5).n, .slice (some ⟨KB.G, 0, none⟩) (rd1 k occ L 5).orders.length coB, .slice alB (rd1 k occ L 5).locked.length clB, .slice acB (rd1 k occ L 5).occ.length ccB] 34)
          have bwC := below_trans bwB bwB.size bBC
          have HB : Hid (BookAt (wB.alloc (.cells #[.int .i64 4, .int .i64 (rd1 k occ L 5).n, .slice (some ⟨KB.G, 0, none⟩) (rd1 k occ L 5).orders.length coB, .slice alB (rd1 k occ L 5).locked.length clB, .slice acB (rd1 k occ L 5).occ.length ccB] 34)) (.agg #[.int .i64 (rd1 k occ L 2).n, .slice ao6 (rd1 k occ L 2).orders.length co6, .slice al6 (rd1 k occ L 2).locked.length cl6, .slice ac6 (rd1 k occ L 2).occ.length cc6]) (rd1 k occ L 2)) := (HW.out.below hbB).below bBC
          have o1 : ((rd1 k occ L 5).orders.length : Int) = 1 := rfl
          clear q0 q1 q2 q3 q4 xW ho hbB HW cg bBC bwB bwW bwA
          obtain ⟨q0, q1, q2, q3, q4⟩ := dcells5 xB
          clear xB
          -- impl.Do(g.Book, bob)
          go_wp2_with fail
          refine (implDo_any A _ _ (rd1 k occ L 2) (evRep bobB tx) _ (HG.out.2.1.below bwC) (tab_below HG.out.2.2 bwC) (rd1_small HC.out.1) bob_size (by show tx.size ≤ 1048576; omega) (Nat.zero_le _) HB.out (ev_none _ 3 0 0 _ _)).mono ?_
          rintro e wD ⟨aD, bD, cD, dD, KD, rfl, ho, hbD⟩
          have cg : (doP (rd1 k occ L 2) (evRep bobB tx)).1 = 3 := by rw [do_rep_bob HR.out HC.out.1 ht2]
          rw [cg]
          have bwD := below_trans bwC bwC.size hbD
          clear q0 q1 q2 q3 q4 ho hbD HB
          go_wp2
          go_ret
          exact ⟨rfl, bwD⟩

end Go.Proofs.YtbgmgfnhmlpehaaDoor

/-
  The cell 'laid' of Do and Run: the program's eight errors, and the table of powers. Mine, by template (wip/gen.py; written by wip/plaid.py).
-/
namespace Go.Proofs.YtbgmgfnhmlpehaaDoor
open Go.RowKit Go.ChangeShapes Go.WideShapes

theorem gTab : Tryd.prog.globalNamed "internal/strconv.uint64pow10" = some 8 := by kernel_rfl
theorem gTabType : (Tryd.prog.globals[8]?).map (·.type) = some 162 := by kernel_rfl
theorem cellsT : Tryd.prog.cellsOf 162 = 20 := by kernel_rfl
theorem cellsE : Tryd.prog.cellsOf 53 = 1 := by kernel_rfl
theorem datumTab : (Rows.laid_internal_strconv_uint64pow10 : DataW Unit) = Lib.tabData .u64 Lib.pow10Tab := by kernel_rfl
theorem errStar : "*" ++ "errors.errorString" = "*errors.errorString" := by decide
theorem errCells : Tryd.prog.cellsOf 191 = 1 := by kernel_rfl
theorem strCells : Tryd.prog.cellsOf 9 = 1 := by kernel_rfl
theorem errRow (u : TypeId) (h : Tryd.prog.typeName? 3 u = some "*errors.errorString") : u = 169 :=
  typeName_ptr_named (nm := "errors.errorString") (by rw [errStar]; kernel_rfl) (by kernel_rfl) (by decide) u (by rw [errStar]; exact h)

set_option maxRecDepth 100000 in
theorem laid_err {n : String} {text : List UInt8} {r : List (String × DataW Unit)} {W : World} {g : Nat} (h : laidMet Tryd.prog ((n, .iface "*errors.errorString" (.ptr (.agg [.lit (.string text)]))) :: r) W)
    (hg : Tryd.prog.globalNamed n = some g) (ht : (Tryd.prog.globals[g]?).map (·.type) = some 60) :
    ∃ a : Addr, W.cell? ⟨g, 0, none⟩ = some (.iface 169 (.pointer (some a))) ∧ (∃ s : ByteArray, W.cell? a = some (.string s) ∧ s.data.toList = text) ∧ ∃ c t, W.heap[a.block]? = some (.cells c t (0, 0)) := by
  obtain ⟨ps, ⟨g0, t0, cs0, f0, p0, q0, hg0, ht0, hv0, hd0, _, e0⟩, _, hrows⟩ := h
  obtain rfl := Option.some.inj (hg.symm.trans hg0)
  obtain rfl := Option.some.inj (ht.symm.trans ht0)
  subst e0
  obtain ⟨l0⟩ := cs0
  have ok0 : ∀ u v, l0 = [.iface u v] → Value.okWide Tryd.prog W .any 0 u v := fun u v e => by
    subst e
    exact (hrows g 0 (by simp [MemPlace.row])).2 u v (by simpa using World.var?_cell hg0 hv0 0)
  obtain ⟨a0, s0, rfl, hc0, hs0, hz0, rfl⟩ := errorString_of_trod Tryd.underlying60 errRow Tryd.underlying169 Tryd.underlying191 rfl rfl Tryd.underlying9 errCells strCells hd0 ok0
  exact ⟨a0, by simpa using World.var?_cell hg0 hv0 0, ⟨s0, hc0, hs0⟩, (hrows a0.block a0.off (by simp [MemPlace.row])).1⟩

def textOf : DataW Unit → List UInt8
  | .iface _ (.ptr (.agg [.lit (.string t)])) => t
  | _ => []

/-- The errors' texts. -/
def errT : Nat → List UInt8
  | 0 => textOf Rows.laid_loop_example_handsignal_impl_errNoEvent
  | 1 => textOf Rows.laid_loop_example_handsignal_impl_errBookFull
  | 2 => textOf Rows.laid_loop_example_handsignal_impl_errState
  | 3 => textOf Rows.laid_loop_example_handsignal_impl_errTaken
  | 4 => textOf Rows.laid_loop_example_handsignal_impl_errNotHolder
  | 5 => textOf Rows.laid_loop_example_handsignal_impl_errLocked
  | 6 => textOf Rows.laid_loop_example_handsignal_impl_errMisheard
  | _ => textOf Rows.laid_loop_example_handsignal_impl_errSomebody

theorem errT_ne : ∀ i, i < 8 → ∀ j, j < 8 → i ≠ j → errT i ≠ errT j := by decide +kernel

theorem errN0 : Tryd.prog.globalNamed "loop.example/handsignal/impl.errNoEvent" = some 0 := by kernel_rfl
theorem errY0 : (Tryd.prog.globals[0]?).map (·.type) = some 60 := by kernel_rfl
theorem errN1 : Tryd.prog.globalNamed "loop.example/handsignal/impl.errBookFull" = some 1 := by kernel_rfl
theorem errY1 : (Tryd.prog.globals[1]?).map (·.type) = some 60 := by kernel_rfl
theorem errN2 : Tryd.prog.globalNamed "loop.example/handsignal/impl.errState" = some 2 := by kernel_rfl
theorem errY2 : (Tryd.prog.globals[2]?).map (·.type) = some 60 := by kernel_rfl
theorem errN3 : Tryd.prog.globalNamed "loop.example/handsignal/impl.errTaken" = some 3 := by kernel_rfl
theorem errY3 : (Tryd.prog.globals[3]?).map (·.type) = some 60 := by kernel_rfl
theorem errN4 : Tryd.prog.globalNamed "loop.example/handsignal/impl.errNotHolder" = some 4 := by kernel_rfl
theorem errY4 : (Tryd.prog.globals[4]?).map (·.type) = some 60 := by kernel_rfl
theorem errN5 : Tryd.prog.globalNamed "loop.example/handsignal/impl.errLocked" = some 5 := by kernel_rfl
theorem errY5 : (Tryd.prog.globals[5]?).map (·.type) = some 60 := by kernel_rfl
theorem errN6 : Tryd.prog.globalNamed "loop.example/handsignal/impl.errMisheard" = some 6 := by kernel_rfl
theorem errY6 : (Tryd.prog.globals[6]?).map (·.type) = some 60 := by kernel_rfl
theorem errN7 : Tryd.prog.globalNamed "loop.example/handsignal/impl.errSomebody" = some 7 := by kernel_rfl
theorem errY7 : (Tryd.prog.globals[7]?).map (·.type) = some 60 := by kernel_rfl

abbrev laidAll : List (String × DataW Unit) := Rows.fnRoundRow.laid

theorem table_of {W : World} (h : laidMet Tryd.prog laidAll W) : Lib.TabIs Tryd.prog W "internal/strconv.uint64pow10" .u64 Lib.pow10Tab := by
  have h2 := laidMet.tail (laidMet.tail h)
  rw [datumTab] at h2
  exact Lib.tabIs_of_head gTab gTabType Tryd.underlying162 Tryd.underlying53 cellsE cellsT h2

def pick (a0 a1 a2 a3 a4 a5 a6 a7 : Addr) : Nat → Addr
  | 0 => a0
  | 1 => a1
  | 2 => a2
  | 3 => a3
  | 4 => a4
  | 5 => a5
  | 6 => a6
  | _ => a7

theorem errs_of {W : World} (h : laidMet Tryd.prog laidAll W) : ∃ A, Errs W A := by
  have h0 := laidMet.tail (laidMet.tail (laidMet.tail h))
  obtain ⟨a0, v0, s0, b0⟩ := laid_err (text := errT 0) h0 errN0 errY0
  have h1 := laidMet.tail h0
  obtain ⟨a1, v1, s1, b1⟩ := laid_err (text := errT 1) h1 errN1 errY1
  have h2 := laidMet.tail h1
  obtain ⟨a2, v2, s2, b2⟩ := laid_err (text := errT 2) h2 errN2 errY2
  have h3 := laidMet.tail h2
  obtain ⟨a3, v3, s3, b3⟩ := laid_err (text := errT 3) h3 errN3 errY3
  have h4 := laidMet.tail h3
  obtain ⟨a4, v4, s4, b4⟩ := laid_err (text := errT 4) h4 errN4 errY4
  have h5 := laidMet.tail h4
  obtain ⟨a5, v5, s5, b5⟩ := laid_err (text := errT 5) h5 errN5 errY5
  have h6 := laidMet.tail h5
  obtain ⟨a6, v6, s6, b6⟩ := laid_err (text := errT 6) h6 errN6 errY6
  have h7 := laidMet.tail h6
  obtain ⟨a7, v7, s7, b7⟩ := laid_err (text := errT 7) h7 errN7 errY7
  have hs : ∀ k, k < 8 → ∃ s : ByteArray, W.cell? ((pick a0 a1 a2 a3 a4 a5 a6 a7) k) = some (.string s) ∧ s.data.toList = errT k := fun k hk => by
    match k, hk with
    | 0, _ => exact s0
    | 1, _ => exact s1
    | 2, _ => exact s2
    | 3, _ => exact s3
    | 4, _ => exact s4
    | 5, _ => exact s5
    | 6, _ => exact s6
    | 7, _ => exact s7
  refine ⟨(pick a0 a1 a2 a3 a4 a5 a6 a7), fun k hk => ?_, fun k hk => ?_, fun i j hi hj ne e => ?_⟩
  · match k, hk with
    | 0, _ => exact v0
    | 1, _ => exact v1
    | 2, _ => exact v2
    | 3, _ => exact v3
    | 4, _ => exact v4
    | 5, _ => exact v5
    | 6, _ => exact v6
    | 7, _ => exact v7
  · match k, hk with
    | 0, _ => exact b0
    | 1, _ => exact b1
    | 2, _ => exact b2
    | 3, _ => exact b3
    | 4, _ => exact b4
    | 5, _ => exact b5
    | 6, _ => exact b6
    | 7, _ => exact b7
  · obtain ⟨s, hs1, hs2⟩ := hs i hi
    obtain ⟨t, ht1, ht2⟩ := hs j hj
    rw [e] at hs1
    obtain rfl : s = t := by
      have := Option.some.inj (hs1.symm.trans ht1)
      cases this
      rfl
    exact errT_ne i hi j hj ne (hs2.symm.trans ht2)

/-! ### A world for the witness -/

/-- What a listed table holds, as cells. -/
def valsOf : DataW Unit → Array Value
  | .agg ds => (ds.map fun d => match d with | .lit (.int k z) => Value.int k z | _ => Value.bool false).toArray
  | _ => #[]
def putTab (d : DataW Unit) : Obj → Obj
  | .cells _ t frozen => .cells (valsOf d) t frozen
  | o => o
noncomputable def low : Nat := (World.holding Tryd.prog default ⟨#[], #[], []⟩).heap.size
noncomputable def putErr (k : Nat) : Obj → Obj
  | .cells _ t frozen => .cells #[.iface 169 (.pointer (some ⟨low + k, 0, none⟩))] t frozen
  | o => o
def errB (k : Nat) : Obj := .cells #[.string ⟨(errT k).toArray⟩] 191
noncomputable def w0 (os : Os) : World := World.holding Tryd.prog os ⟨#[errB 0, errB 1, errB 2, errB 3, errB 4, errB 5, errB 6, errB 7], #[], []⟩
/-- A world in which the listed variables hold what their initialisers lay. -/
noncomputable def laidWorld (os : Os) : World :=
  { w0 os with heap := ((((((((((((w0 os).heap).modify 0 (putErr 0)).modify 1 (putErr 1)).modify 2 (putErr 2)).modify 3 (putErr 3)).modify 4 (putErr 4)).modify 5 (putErr 5)).modify 6 (putErr 6)).modify 7 (putErr 7)).modify 8 (putTab Rows.laid_internal_strconv_uint64pow10)).modify 9 (putTab Rows.laid_math_bits_deBruijn32tab)).modify 10 (putTab Rows.laid_math_bits_deBruijn64tab) }

theorem trodVars_length {H : Type} {enc : TypeId × Value → H} {P : Program} {w : World} {sp : Nat → Bool} : ∀ {ns : List String} {gs : List (DataW H)} {ps : List MemPlace}, DataW.TrodVars enc P w sp ns gs ps → gs.length = ns.length
  | [], [], _, _ => rfl
  | [], _ :: _, _, h => h.elim
  | _ :: _, [], _, h => h.elim
  | _ :: _, _ :: _, _, ⟨_, _, _, _, _, _, _, _, _, _, hs, _⟩ => by simp [trodVars_length hs]

theorem list8 {α : Type} {l : List α} (h : l.length = 8) : ∃ a b c d e f g i, l = [a, b, c, d, e, f, g, i] := by
  match l, h with
  | [a, b, c, d, e, f, g, i], _ => exact ⟨a, b, c, d, e, f, g, i, rfl⟩

end Go.Proofs.YtbgmgfnhmlpehaaDoor

/-
  Bytes among the arguments, opened. Mine, by template (wip/gen.py).
-/
namespace Go.Proofs.YtbgmgfnhmlpehaaDoor
open Go.RowKit Go.Deep Go.Joins Go.ChangeShapes Go.WideShapes Go.ChangeAt

theorem cellsU8 : Tryd.prog.cellsOf 5 = 1 := by kernel_rfl

theorem u8_of {z : Int} (h : (Lit.int .u8 z).wf = true) : ∃ b : UInt8, z = ((b.toNat : Nat) : Int) := by
  have h2 : 0 ≤ z ∧ z < 256 := by
    simp [Lit.wf, IntKind.min, IntKind.max, IntKind.signed, IntKind.bits] at h
    omega
  refine ⟨UInt8.ofNat z.toNat, ?_⟩
  rw [UInt8.toNat_ofNat']
  omega

section
variable {H : Type} {enc : TypeId × Value → H} {w : World} {base : Nat} {spare : Nat → Bool} {held : Bool}

theorem open_bytes {a0 : Option Addr} {l k : Nat} {d : DataW H} {p : List MemPlace} (h : DataW.Trod enc Tryd.prog w base spare held 22 (.slice a0 l k) d p) :
    ∃ V, BytesAt w a0 l V := by
  obtain ⟨fuel, hf⟩ := h
  rcases open_slice1 Tryd.underlying22 cellsU8 hf with ⟨h0, _⟩ | ⟨a, len, cap, m, n, V, D, Pl, hcs, _, hl, hm, hmm, _, hx⟩
  · simp [Value.cells] at h0
    obtain ⟨rfl, rfl, rfl⟩ := h0
    exact ⟨fun _ => 0, 0, 0, fun h => absurd h (by simp), fun i hi => absurd hi (by simp)⟩
  · simp [Value.cells] at hcs
    obtain ⟨rfl, rfl, rfl⟩ := hcs
    have hlm : l ≤ m := by rw [hmm]; split <;> omega
    obtain ⟨f, hf⟩ := choose_lt (α := UInt8) (n := l) (p := fun i b => w.cell? (a.add i) = some (.int .u8 ((b.toNat : Nat) : Int))) (fun i hi => by
      obtain ⟨h1, h2⟩ := hx i (by omega)
      obtain ⟨z, e, _, hw⟩ := DataW.trod_int Tryd.underlying5 h2
      simp at e
      obtain ⟨b, rfl⟩ := u8_of hw
      exact ⟨b, by rw [h1, e]⟩)
    obtain ⟨b, o, q1, q2⟩ := plain_addr hf
    exact ⟨f, b, o, q1, q2⟩
end

end Go.Proofs.YtbgmgfnhmlpehaaDoor

/-
  The row of laws.FnRound, and its card. By template (wip/gen.py).
-/
namespace Go.Proofs.YtbgmgfnhmlpehaaDoor.fnRound
open Go.ChangeShapes Go.WideShapes Go.ChangeAt Go.RowKit

theorem own : ownKnob Tryd.prog.godebug = none := by kernel_rfl
theorem laidOut : laidOutB Tryd.prog = true := by kernel_rfl

abbrev wargs : Array Value := #[.slice none 0 0]

theorem laid_met (os : Os) : laidMet Tryd.prog Rows.fnRoundRow.laid ((laidWorld os).forCall (fun _ _ => 0) ⟨#[], wargs, []⟩).memory :=
  laidMet_of_run' 8 (by kernel_rfl) (by kernel_rfl)
theorem reads (os : Os) {H : Type} (enc : TypeId × Value → H) : ∃ x, DataW.whole enc Tryd.prog ((laidWorld os).forCall (fun _ _ => 0) ⟨#[], wargs, []⟩).memory Tryd.f5.params.toList Rows.fnRoundSpec.vars false wargs.toList 8 = some x :=
  Option.isSome_iff_exists.1 (by kernel_rfl)

set_option maxHeartbeats 4000000 in
set_option maxRecDepth 100000 in
theorem contract (H : Type) (enc : TypeId × Value → H) (W : World) (base : Nat) (args : Array Value) (ds gs : List (DataW H)) (before : List MemPlace)
    (hval0 : ∀ (j : Nat) t v, Tryd.f5.params[j]? = some t → args[j]? = some v → Value.okWide Tryd.prog W .any base t v)
    (hW : DataW.Whole enc Tryd.prog Tryd.f5.params.toList Rows.fnRoundSpec.vars false W args.toList ds gs before) (hL : laidMetH Tryd.prog Rows.fnRoundRow.laid W) :
    Calls Tryd.prog 5 args W fun e W' => ∃ v, e = .returned v ∧ Rows.fnRoundSpec.post enc Tryd.prog Tryd.f5 false true false false W args v W' := by
  have hval : ∀ (j : Nat) t v, Tryd.f5.params[j]? = some t → args[j]? = some v → Value.okWide Tryd.prog W .any base t v := hval0
  have hW' := hW
  obtain ⟨p, q, hA0, hV, rfl, hfz, hnd⟩ := hW
  have hA : DataW.TrodAll enc Tryd.prog W 0 (fun _ => true) true Tryd.f5.params.toList args.toList ds p := hA0
  rw [Tryd.params5] at hA hval
  obtain ⟨v0, vs0, d0, ds0, p0, q0, hargs, rfl, rfl, h0, r0⟩ := trodAll_cons hA
  obtain ⟨rfl, rfl, rfl⟩ := trodAll_nil r0
  obtain rfl : args = #[v0] := by cases args; simp_all
  have hV1 : DataW.TrodVars enc Tryd.prog W (fun _ => true) Rows.fnRoundSpec.vars gs q := hV
  obtain ⟨g1, g2, g3, g4, g5, g6, g7, g8, rfl⟩ := list8 (trodVars_length hV1)
  have hL1 : laidMet Tryd.prog laidAll W := hL
  obtain ⟨A, hErr⟩ := errs_of hL1
  have k0 := h0
  have lt0 : ∀ x ∈ p0, x.block < W.heap.size := by obtain ⟨m, hm⟩ := k0; exact DataW.trod_lt m _ _ _ hm
  obtain ⟨sa, sn, sc, rfl⟩ := okWide_slice Tryd.underlying22 (hval 0 22 v0 rfl rfl)
  obtain ⟨V, hE⟩ := open_bytes h0
  clear hA0 hval0
  refine (fnRound_walk A sa sc sn V W hErr (table_of hL1) hE).mono fun e W' ⟨he, bel⟩ => ?_
  subst he
  exact ⟨_, rfl, _, _, _, [], _, _, hW', trodAll_mk1 (shut_bool Tryd.underlying4 _), (trodAll_cons_mk (Below.trod laidOut (by kernel_rfl) (of_decide_eq_true (by kernel_rfl)) k0 bel lt0) trodAll_mk0), Below.trodVars laidOut bel (by kernel_rfl) hV1, bel.frame _, fun h => by cases h⟩

set_option maxHeartbeats 4000000 in
set_option maxRecDepth 100000 in
theorem lifted (os : Os) (started : os.Started) (H : Type) (enc : TypeId × Value → H) (F : Stop.Interp) :
    ReturnsInHanded {} Tryd.checked os 5 .any ((OpenSpec.ofChange Rows.fnRoundSpec).preRow enc Tryd.prog Tryd.f5 Rows.fnRoundRow.domain false Rows.fnRoundRow.laid) (((OpenSpec.ofChange Rows.fnRoundSpec).at F).post enc Tryd.prog Tryd.f5 false true false false) := by
  obtain ⟨x, hx⟩ := reads os enc
  refine returnsInHanded_of_row (C := Tryd.checked) (s := OpenSpec.ofChange Rows.fnRoundSpec) own started (by kernel_rfl) Tryd.func5
    (witness_row_at (enc := enc) (C := Tryd.checked) false (laidWorld os) wargs rfl (by kernel_rfl) (by kernel_rfl) (by kernel_rfl)
      (OpenSpec.preRow_of_cond 8 hx rfl (fun k hk => by cases hk) (by kernel_rfl) (laid_met os))) ?_
  intro W base args ds gs before hval hW _ _ _ hL _ _
  exact contract H enc W base args ds gs before hval hW hL

theorem over : Rows.fnRoundRow.holds Tryd.pinned (OpenSpec.ofChange Rows.fnRoundSpec) :=
  OpenClaim.holds_of_cond 5 Tryd.f5 rfl rfl rfl rfl rfl rfl rfl ⟨rfl, rfl, rfl, rfl, rfl⟩ rfl rfl rfl rfl rfl (by kernel_rfl) Tryd.func5 (by kernel_rfl)
    (of_decide_eq_true (by kernel_rfl)) (by unfold Func.isWrapper; first | (rw [if_pos (by decide +kernel)]; kernel_rfl) | (rw [if_neg (by decide +kernel)]; exact ⟨rfl, rfl⟩))
    (fun os started H enc _ F => by rw [OpenClaim.pre_eq_preRow]; exact lifted os started H enc F)

/-- No parameter wants a stand-in. -/
theorem plain (f : FuncId) (fn : Func) (hf : Tryd.pinned.checked.prog.funcNamed "loop.example/handsignal/laws.FnRound" = some f) (hfn : Tryd.pinned.checked.prog.funcs[f]? = some fn) :
    true = Tryd.pinned.checked.prog.looks [] ∧ ∀ (j : Nat) t, fn.params[j]? = some t → Tryd.pinned.checked.prog.wantsStandIn t = false := by
  obtain rfl : f = 5 := Option.some.inj ((show Tryd.prog.funcNamed "loop.example/handsignal/laws.FnRound" = some 5 by kernel_rfl).symm.trans hf) |>.symm
  obtain rfl : fn = Tryd.f5 := (Option.some.inj (Tryd.func5.symm.trans hfn)).symm
  refine ⟨by kernel_rfl, fun j t ht => ?_⟩
  rw [Tryd.params5] at ht
  have hm : t ∈ [22] := by simpa using Array.mem_of_getElem? ht
  have hall : ([22].all fun u => !Tryd.prog.wantsStandIn u) = true := by kernel_rfl
  exact (show Tryd.prog.wantsStandIn t = false by simpa using List.all_eq_true.1 hall t hm)

theorem card : Rows.FnRoundCardSaid :=
  Claim7.holds_tied_plain_at .later [] _ _ _ _ over (fun _ h => by cases h) (by kernel_rfl) (fun _ h => by cases h) fnRound_row_tie rfl ⟨rfl, rfl⟩ (by kernel_rfl) rfl plain (by kernel_rfl)

end Go.Proofs.YtbgmgfnhmlpehaaDoor.fnRound
namespace Go.Proofs.YtbgmgfnhmlpehaaDoor
theorem fnRound_card : Rows.FnRoundCardSaid := fnRound.card
#print axioms fnRound_card
end Go.Proofs.YtbgmgfnhmlpehaaDoor
