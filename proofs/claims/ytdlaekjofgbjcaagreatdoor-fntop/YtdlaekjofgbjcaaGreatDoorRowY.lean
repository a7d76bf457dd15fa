import Derived.Test.YtdlaekjofgbjcaaGreatDoorRowZ
import Derived.Test.YtdlaekjofgbjcaaGreatDoorDonesZ
import Derived.Test.YtdlaekjofgbjcaaGreatDoorCurY
/-
 Events appended one by one. Mine, by template (wip/gen.py).
-/
namespace Go.Proofs.YtdlaekjofgbjcaaGreatDoor
open Go.RowKit
def evCell (x : Ev) (a : Option Addr) (c : Nat) : Nat → Value
 | 0 => .int .i64 x.op
 | 1 => .int .i64 x.of_
 | 2 => .string x.holder
 | 3 => .int .i64 x.kind
 | 4 => .slice a x.secs.length c
 | _ => .string x.text
def cellsE (x : Ev) (a : Option Addr) (c : Nat) : List Value := [.int .i64 x.op, .int .i64 x.of_, .string x.holder, .int .i64 x.kind, .slice a x.secs.length c, .string x.text]
def evCells (X : Nat → Ev) (sa : Nat → Option Addr) (sc : Nat → Nat) (j : Nat) : Value := evCell (X (j / 6)) (sa (j / 6)) (sc (j / 6)) (j % 6)
def flatE (X : Nat → Ev) (sa : Nat → Option Addr) (sc : Nat → Nat) (n : Nat) : List Value := (List.range (n * 6)).map (evCells X sa sc)
theorem flatE_succ (X : Nat → Ev) (sa : Nat → Option Addr) (sc : Nat → Nat) (n : Nat) (x : Ev) (a : Option Addr) (c : Nat) :
  flatE (put1 X n x) (put1 sa n a) (put1 sc n c) (n + 1) = flatE X sa sc n ++ cellsE x a c := by
 unfold flatE; rw [show (n + 1) * 6 = n * 6 + 6 by omega, List.range_add, List.map_append]
 congr 1
 ·
  refine List.map_congr_left (fun j hj => ?_); have hj' : j < n * 6 := List.mem_range.1 hj; unfold evCells; rw [put1_old X n x (i := j / 6) (by omega), put1_old sa n a (i := j / 6) (by omega), put1_old sc n c (i := j / 6) (by omega)]
 ·
  have d : ∀ r, r < 6 → (n * 6 + r) / 6 = n ∧ (n * 6 + r) % 6 = r := fun r hr => by omega
  have g : ∀ r, r < 6 → evCells (put1 X n x) (put1 sa n a) (put1 sc n c) (n * 6 + r) = evCell x a c r := fun r hr => by
   unfold evCells; rw [(d r hr).1, (d r hr).2, put1_new, put1_new, put1_new]
  rw [show List.range 6 = [0, 1, 2, 3, 4, 5] from rfl]; simp only [List.map_cons, List.map_nil]; rw [g 0 (by omega), g 1 (by omega), g 2 (by omega), g 3 (by omega), g 4 (by omega), g 5 (by omega)]; rfl
structure RowEvs (w : World) (lo : Nat) (u : Value) (n : Nat) (X : Nat → Ev) (sa : Nat → Option Addr) (sc : Nat → Nat) : Prop where
 row : w.ownsRow lo 32 6 u n (flatE X sa sc n)
 own : ∀ i, i < n → w.ownsRow lo 3 1 (.slice (sa i) (X i).secs.length (sc i)) (X i).secs.length ((X i).secs.map (Value.int .i64))
 dis : ∀ i, i < n → ∀ x, (Value.slice (sa i) (X i).secs.length (sc i)).ownBlock = some x → u.ownBlock ≠ some x
theorem rowEvs_nil (w : World) (lo : Nat) (X : Nat → Ev) (sa : Nat → Option Addr) (sc : Nat → Nat) : RowEvs w lo (.slice none 0 0) 0 X sa sc :=
 ⟨World.ownsRow_nil _ _ _ _, fun i hi => absurd hi (by omega), fun i hi => absurd hi (by omega)⟩
theorem RowEvs.fr {w w' : World} {lo : Nat} {u : Value} {n : Nat} {X : Nat → Ev} {sa : Nat → Option Addr} {sc : Nat → Nat} (h : RowEvs w lo u n X sa sc) {S : Nat → Prop} (hf : Fr S w w') (hs : ∀ x, lo ≤ x → ¬ S x) : RowEvs w' lo u n X sa sc :=
 ⟨owns_of_block h.row (fun g hg => hf.block g (owns_lt h.row hg).2 (hs g (owns_lt h.row hg).1)), fun i hi => owns_of_block (h.own i hi) (fun g hg => hf.block g (owns_lt (h.own i hi) hg).2 (hs g (owns_lt (h.own i hi) hg).1)), h.dis⟩
theorem RowEvs.below {w w' : World} {lo : Nat} {u : Value} {n : Nat} {X : Nat → Ev} {sa : Nat → Option Addr} {sc : Nat → Nat} (h : RowEvs w lo u n X sa sc) (hb : Below w.heap.size w w') : RowEvs w' lo u n X sa sc :=
 ⟨owns_below h.row hb, fun i hi => owns_below (h.own i hi) hb, h.dis⟩
theorem RowEvs.push {w w2 : World} {lo : Nat} {u u2 : Value} {n : Nat} {X : Nat → Ev} {sa : Nat → Option Addr} {sc : Nat → Nat} (h : RowEvs w lo u n X sa sc) (x : Ev) (a : Option Addr) (c : Nat)
  (hx : w.ownsRow lo 3 1 (.slice a x.secs.length c) x.secs.length (x.secs.map (Value.int .i64))) (hd : ∀ g, (Value.slice a x.secs.length c).ownBlock = some g → u.ownBlock ≠ some g)
  (h2 : w2.ownsRow lo 32 6 u2 (n + 1) (flatE X sa sc n ++ cellsE x a c)) (hg : w.grownBy w2 u.ownBlock) (hk : u2.ownBlock = u.ownBlock ∨ u2.ownBlock = some w.heap.size) :
  RowEvs w2 lo u2 (n + 1) (put1 X n x) (put1 sa n a) (put1 sc n c) := by
 have hf : Fr (fun x => u.ownBlock = some x) w w2 := ⟨hg.os, hg.tape, hg.output, hg.size, fun k hk' hn => hg.block k hk' (fun e => hn e.symm)⟩
 have new : ∀ x, x < w.heap.size → u.ownBlock ≠ some x → u2.ownBlock ≠ some x := fun x hx hu => by
  rcases hk with e | e
  · rw [e]; exact hu
  · rw [e]; simp only [ne_eq, Option.some.injEq]; omega
 refine ⟨by rw [flatE_succ]; exact h2, fun i hi => ?_, fun i hi y hy => ?_⟩
 ·
  by_cases ei : i = n
  ·
   subst ei; rw [put1_new, put1_new, put1_new]; exact owns_of_block hx (fun g hg' => hf.block g (owns_lt hx hg').2 (hd g hg'))
  ·
   have hi' : i < n := by omega
   rw [put1_old _ _ _ hi', put1_old _ _ _ hi', put1_old _ _ _ hi']; exact owns_of_block (h.own i hi') (fun g hg' => hf.block g (owns_lt (h.own i hi') hg').2 (h.dis i hi' g hg'))
 ·
  by_cases ei : i = n
  ·
   subst ei; rw [put1_new, put1_new, put1_new] at hy; exact new y (owns_lt hx hy).2 (hd y hy)
  ·
   have hi' : i < n := by omega
   rw [put1_old _ _ _ hi', put1_old _ _ _ hi', put1_old _ _ _ hi'] at hy; exact new y (owns_lt (h.own i hi') hy).2 (h.dis i hi' y hy)
theorem cells_of_owns {w : World} {lo : Nat} {a : Option Addr} {c : Nat} {l : List Int} (h : w.ownsRow lo 3 1 (.slice a l.length c) l.length (l.map (Value.int .i64))) : Cells w a l.length (iV l) := by
 have h' : w.ownsRow lo 3 1 (.slice a l.length c) l.length ((List.range (l.length * 1)).map (iV l)) := by
  have e : (List.range (l.length * 1)).map (iV l) = l.map (Value.int .i64) := by
   refine List.ext_getElem? (fun i => ?_)
   by_cases hi : i < l.length
   · simp [iV, hi]
   · simp [hi]
  rw [e]; exact h
 obtain ⟨ad, c', G, hv, hp⟩ := pre_of_owns h'; simp only [Value.slice.injEq, true_and] at hv; obtain ⟨rfl, rfl⟩ := hv; refine ⟨G, 0, fun p => (hp p).1, fun i hi => ?_⟩; have := ((hp (by omega)).2.2.1).cell (i := i) (by omega)
 simpa using this
theorem RowEvs.done {w : World} {lo : Nat} {u : Value} {n : Nat} {X : Nat → Ev} {sa : Nat → Option Addr} {sc : Nat → Nat} (h : RowEvs w lo u n X sa sc) : ∃ ad c, u = .slice ad n c ∧ EventsAt w ad n X := by
 obtain ⟨ad, c, G, hv, hp⟩ := pre_of_owns h.row; refine ⟨ad, c, hv, G, 0, fun p => (hp p).1, fun i hi => ⟨sa i, sc i, ?_⟩⟩; have pr := (hp (by omega)).2.2.1
 have d : ∀ r, r < 6 → w.cell? ⟨G, 0 + i * 6 + r, none⟩ = some (evCell (X i) (sa i) (sc i) r) := fun r hr => by
  have q := pr.cell (i := i * 6 + r) (by omega); have e1 : (i * 6 + r) / 6 = i := by omega
  have e2 : (i * 6 + r) % 6 = r := by omega
  unfold evCells at q; rw [e1, e2] at q; rw [Nat.zero_add]; exact q
 exact ⟨d 0 (by omega), d 1 (by omega), d 2 (by omega), d 3 (by omega), d 4 (by omega), d 5 (by omega), cells_of_owns (h.own i hi)⟩
end Go.Proofs.YtdlaekjofgbjcaaGreatDoor
