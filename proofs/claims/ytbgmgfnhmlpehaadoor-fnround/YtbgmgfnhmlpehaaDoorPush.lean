/-
  Slices made by append: lists copied, an order more. Mine, by template (wip/gen.py).
-/
import Derived.Test.YtbgmgfnhmlpehaaDoorOwnUp
import Derived.Maps.AppendAt
namespace Go.Proofs.YtbgmgfnhmlpehaaDoor
open Go.RowKit

/-! ### A list of cells appended -/

theorem run_append_cells {P : Program} (w : World) (base : Nat) (t ty e : TypeId) (i : TypeInfo) (z : Value) (bytes : Nat) (ht : P.underlying t = some (.slice e)) (hi : P.info? e = some i) (hz : i.zero = some z)
    (hsize : i.size = 1) (hby : i.bytes = bytes) (hzs : z.cells.size = 1) (v : Value) (n : Nat) (xs : List Value) (hown : w.ownsRow base e 1 v n xs)
    (ad : Option Addr) (m c : Nat) (V : Nat → Value) (K : Cells w ad m V) (h1 : ∀ j, (V j).oneCell' = true) (h63 : n + m ≤ maxLen) (hbytes : (n + m) * bytes ≤ 140737488355328) (hbase : base ≤ w.heap.size) :
    ∃ v' w', (Builtin.append_ #[t, t] ty #[v, .slice ad m c]).run P w = .ok v' w' ∧ w'.ownsRow base e 1 v' (n + m) (xs ++ (List.range m).map V) ∧ w.grownBy w' v.ownBlock ∧ (v' = .slice none 0 0 ↔ v = .slice none 0 0 ∧ m = 0) ∧ (v'.ownBlock = v.ownBlock ∨ v'.ownBlock = some w.heap.size) := by
  obtain ⟨b, o, hd, g⟩ := K
  cases ad with
  | none =>
    have hm : m = 0 := by
      rcases Nat.eq_zero_or_pos m with h | h
      · exact h
      · cases hd h
    subst hm
    refine ⟨v, w, ?_, by simpa using hown, ⟨rfl, rfl, rfl, Nat.le_refl _, fun _ _ _ => rfl⟩, by simp, Or.inl rfl⟩
    rcases hown.2 with ⟨rfl, rfl⟩ | ⟨g', cap, cur, rfl, _, _, hnc, _⟩
    · simp [Builtin.append_, run_underlying ht, sizeOf, typeInfo, hi, Builtin.lenOf, Builtin.firstCells]
    · simp [Builtin.append_, run_underlying ht, sizeOf, typeInfo, hi, Builtin.lenOf, Builtin.firstCells, hnc, storeCells]
  | some a =>
    have hn : ∀ j u, ((List.range m).map V)[j]? = some u → w.cell? (a.add j) = some u := by
      intro j u hu
      have hj : j < m := by
        have := (List.getElem?_eq_some_iff.1 hu).1
        simpa using this
      have hu' : V j = u := by simpa [hj] using hu
      have ea := hd (by omega)
      simp only [Option.some.injEq] at ea
      subst ea
      rw [← hu']
      rw [show (⟨b, o, none⟩ : Addr).add j = ⟨b, o + j, none⟩ from by simp [Addr.add]]
      exact g j hj
    obtain ⟨v', w', hr, h2, h3, h4, h5⟩ := run_append_own_at (P := P) w base t ty e i z 1 bytes ht hi hz hsize hby hzs (by omega) v n xs hown a m c ((List.range m).map V) (by simp) hn (fun u hu => by obtain ⟨j, _, rfl⟩ := List.mem_map.1 hu; exact h1 j) h63 hbytes hbase
    exact ⟨v', w', hr, h2, h3, h4, h5⟩

theorem wpList_append_cells {P : Program} (w : World) {ops : Array Oper} {rest : List Oper} {o : Oper} {a : Act} {Q : Exit → Act → World → Prop} (hgd : o.guard = none) (s x : Operand) (t : TypeId)
    (ho : o.op = .call { callee := .builtin .append, args := #[s, x], argTypes := #[t, t] })
    (base : Nat) (e : TypeId) (i : TypeInfo) (z : Value) (bytes : Nat) (ht : P.underlying t = some (.slice e)) (hi : P.info? e = some i) (hz : i.zero = some z)
    (hsize : i.size = 1) (hby : i.bytes = bytes) (hzs : z.cells.size = 1) (v : Value) (n : Nat) (xs : List Value) (hs : a.eval s = v) (hown : w.ownsRow base e 1 v n xs)
    (ad : Option Addr) (m c : Nat) (V : Nat → Value) (hx : a.eval x = .slice ad m c) (K : Cells w ad m V) (h1 : ∀ j, (V j).oneCell' = true) (h63 : n + m ≤ maxLen) (hbytes : (n + m) * bytes ≤ 140737488355328) (hbase : base ≤ w.heap.size)
    (h : ∀ v' w', w'.ownsRow base e 1 v' (n + m) (xs ++ (List.range m).map V) → w.grownBy w' v.ownBlock → (v' = .slice none 0 0 ↔ v = .slice none 0 0 ∧ m = 0) → (v'.ownBlock = v.ownBlock ∨ v'.ownBlock = some w.heap.size) → wpList P ops Q rest (a.put o.dst v') w') :
    wpList P ops Q (o :: rest) a w := by
  refine wpList_plain hgd fun K' hK => ?_
  obtain ⟨v', w', hr, h2, h3, h4, h5⟩ := run_append_cells (P := P) w base t o.type e i z bytes ht hi hz hsize hby hzs v n xs hown ad m c V K h1 h63 hbytes hbase
  unfold Oper.wp execOp
  simp only [ho, resolve, invoke, builtin, Sem.run_bind, Sem.run_pure, Result.andThen_ok, List.map_toArray, List.map_cons, List.map_nil, hs, hx, hr]
  exact hK _ _ (h v' w' h2 h3 h4 h5)

/-- A row that is owned, as the first cells of a block. -/
theorem pre_of_owns {w : World} {base : Nat} {e : TypeId} {size : Nat} {v : Value} {n : Nat} {V : Nat → Value} (h : w.ownsRow base e size v n ((List.range (n * size)).map V)) :
    ∃ ad c G, v = .slice ad n c ∧ (0 < n → ad = some ⟨G, 0, none⟩ ∧ base ≤ G ∧ Pre w G e (n * size) V ∧ v.ownBlock = some G) := by
  obtain ⟨_, h2⟩ := h
  rcases h2 with ⟨rfl, rfl⟩ | ⟨g, cap, cur, rfl, h1, h3, h4, _, h5, h6⟩
  · exact ⟨none, 0, 0, rfl, fun h => absurd h (by omega)⟩
  · refine ⟨_, cap, g, rfl, fun _ => ⟨rfl, h1, ⟨cur, h3, by rw [h5]; exact Nat.mul_le_mul_right _ h4, fun i hi => ?_⟩, rfl⟩⟩
    have e : (cur.toList.take (n * size))[i]? = ((List.range (n * size)).map V)[i]? := by rw [h6]
    rw [List.getElem?_take, if_pos (by omega)] at e
    rw [← Array.getElem?_toList, e]
    simp [hi]

theorem owns_of_block {w w' : World} {lo : Nat} {e : TypeId} {s : Nat} {v : Value} {n : Nat} {xs : List Value} (h : w.ownsRow lo e s v n xs) (hb : ∀ g, v.ownBlock = some g → w'.heap[g]? = w.heap[g]?) : w'.ownsRow lo e s v n xs := by
  obtain ⟨h1, h2⟩ := h
  refine ⟨h1, ?_⟩
  rcases h2 with h2 | ⟨g, cap, cur, hv, hg, hh, r⟩
  · exact Or.inl h2
  · exact Or.inr ⟨g, cap, cur, hv, hg, (hb g (by rw [hv]; rfl)).trans hh, r⟩

theorem owns_lt {w : World} {lo : Nat} {e : TypeId} {s : Nat} {v : Value} {n : Nat} {xs : List Value} (h : w.ownsRow lo e s v n xs) {g : Nat} (hg : v.ownBlock = some g) : lo ≤ g ∧ g < w.heap.size := by
  obtain ⟨_, h2⟩ := h
  rcases h2 with ⟨rfl, _⟩ | ⟨g', cap, cur, rfl, hl, hh, _⟩
  · cases hg
  · simp only [Value.ownBlock, Option.some.injEq] at hg
    subst hg
    exact ⟨hl, (Array.getElem?_eq_some_iff.1 hh).1⟩

theorem owns_below {w w' : World} {lo : Nat} {e : TypeId} {s : Nat} {v : Value} {n : Nat} {xs : List Value} (h : w.ownsRow lo e s v n xs) (hb : Below w.heap.size w w') : w'.ownsRow lo e s v n xs :=
  owns_of_block h (fun _ hg => hb.block _ (owns_lt h hg).2)

/-- What a copied list of flags is. -/
theorem ownBools_of {w : World} {lo : Nat} {v : Value} {n : Nat} {V : Nat → Bool} (h : w.ownsRow lo 4 1 v n ((List.range n).map (fun i => Value.bool (V i)))) : ∃ ad c G, v = .slice ad n c ∧ OwnBools w lo ad n V G ∧ (0 < n → v.ownBlock = some G) := by
  obtain ⟨ad, c, G, hv, hp⟩ := pre_of_owns (size := 1) (V := fun i => Value.bool (V i)) (by rw [Nat.mul_one]; exact h)
  simp only [Nat.mul_one] at hp
  exact ⟨ad, c, G, hv, ⟨fun p => (hp p).1, fun p => (hp p).2.2.1, fun p => (hp p).2.1⟩, fun p => (hp p).2.2.2⟩

/-! ### Orders, one by one -/

def flat (X : Nat → Ord) (sa : Nat → Option Addr) (sc : Nat → Nat) (n : Nat) : List Value := (List.range (n * 4)).map (ordCells X sa sc)
def cellsOf (x : Ord) (s : Option Addr) (c : Nat) : List Value := [.string x.holder, .int .i64 x.kind, .slice s x.secs.length c, .int .i64 x.state]

def put1 {α : Type} (f : Nat → α) (n : Nat) (x : α) (i : Nat) : α := if i = n then x else f i
theorem put1_new {α : Type} (f : Nat → α) (n : Nat) (x : α) : put1 f n x n = x := if_pos rfl
theorem put1_old {α : Type} (f : Nat → α) (n : Nat) (x : α) {i : Nat} (h : i < n) : put1 f n x i = f i := if_neg (by omega)

theorem flat_succ (X : Nat → Ord) (sa : Nat → Option Addr) (sc : Nat → Nat) (n : Nat) (x : Ord) (s : Option Addr) (c : Nat) :
    flat (put1 X n x) (put1 sa n s) (put1 sc n c) (n + 1) = flat X sa sc n ++ cellsOf x s c := by
  unfold flat
  rw [show (n + 1) * 4 = n * 4 + 4 by omega, List.range_add, List.map_append]
  congr 1
  · refine List.map_congr_left (fun j hj => ?_)
    have hj' : j < n * 4 := List.mem_range.1 hj
    unfold ordCells
    rw [put1_old X n x (i := j / 4) (by omega), put1_old sa n s (i := j / 4) (by omega), put1_old sc n c (i := j / 4) (by omega)]
  · have d : ∀ r, r < 4 → ordCells (put1 X n x) (put1 sa n s) (put1 sc n c) (n * 4 + r) = ordCell x s c r := fun r hr => by
      unfold ordCells
      rw [show (n * 4 + r) / 4 = n by omega, show (n * 4 + r) % 4 = r by omega, put1_new, put1_new, put1_new]
    simp only [List.map_map]
    rw [show List.range 4 = [0, 1, 2, 3] from rfl]
    simp only [List.map_cons, List.map_nil, Function.comp]
    rw [d 0 (by omega), d 1 (by omega), d 2 (by omega), d 3 (by omega)]
    rfl

/-- Orders in a slice that append has made, each one's sections in a block of its own. -/
structure RowOrds (w : World) (lo : Nat) (u : Value) (n : Nat) (X : Nat → Ord) (gs : Nat → Nat) (sa : Nat → Option Addr) (sc : Nat → Nat) : Prop where
  row : w.ownsRow lo 39 4 u n (flat X sa sc n)
  nil : n = 0 → u = .slice none 0 0
  sec : ∀ i, i < n → 0 < (X i).secs.length → sa i = some ⟨gs i, 0, none⟩ ∧ Pre w (gs i) 3 (X i).secs.length (iV (X i).secs) ∧ lo ≤ gs i ∧ u.ownBlock ≠ some (gs i)
  inj : ∀ i j, i < n → j < n → 0 < (X i).secs.length → 0 < (X j).secs.length → gs i = gs j → i = j

theorem RowOrds.start (w : World) (lo : Nat) (X : Nat → Ord) (gs : Nat → Nat) (sa : Nat → Option Addr) (sc : Nat → Nat) : RowOrds w lo (.slice none 0 0) 0 X gs sa sc :=
  ⟨World.ownsRow_nil _ _ _ _, fun _ => rfl, fun i hi => absurd hi (by omega), fun i j hi => absurd hi (by omega)⟩

theorem RowOrds.below {w w' : World} {lo : Nat} {u : Value} {n : Nat} {X : Nat → Ord} {gs : Nat → Nat} {sa : Nat → Option Addr} {sc : Nat → Nat} (h : RowOrds w lo u n X gs sa sc) (hb : Below w.heap.size w w') : RowOrds w' lo u n X gs sa sc :=
  ⟨owns_below h.row hb, h.nil, fun i hi hp => ⟨(h.sec i hi hp).1, (h.sec i hi hp).2.1.of_block (hb.block _ (h.sec i hi hp).2.1.lt), (h.sec i hi hp).2.2⟩, h.inj⟩

theorem RowOrds.push {w w2 : World} {lo : Nat} {u u2 : Value} {n : Nat} {X : Nat → Ord} {gs : Nat → Nat} {sa : Nat → Option Addr} {sc : Nat → Nat} (h : RowOrds w lo u n X gs sa sc) (x : Ord) (g : Nat) (s : Option Addr) (c : Nat)
    (hs : 0 < x.secs.length → s = some ⟨g, 0, none⟩ ∧ Pre w g 3 x.secs.length (iV x.secs) ∧ lo ≤ g ∧ u.ownBlock ≠ some g ∧ ∀ i, i < n → 0 < (X i).secs.length → gs i ≠ g)
    (h2 : w2.ownsRow lo 39 4 u2 (n + 1) (flat X sa sc n ++ cellsOf x s c)) (hg : w.grownBy w2 u.ownBlock) (hk : u2.ownBlock = u.ownBlock ∨ u2.ownBlock = some w.heap.size) :
    RowOrds w2 lo u2 (n + 1) (put1 X n x) (put1 gs n g) (put1 sa n s) (put1 sc n c) := by
  have old : ∀ i, i < n → 0 < (X i).secs.length → u2.ownBlock ≠ some (gs i) := fun i hi hp => by
    rcases hk with e | e
    · rw [e]; exact (h.sec i hi hp).2.2.2
    · rw [e]
      have := (h.sec i hi hp).2.1.lt
      simp only [ne_eq, Option.some.injEq]
      omega
  refine ⟨by rw [flat_succ]; exact h2, fun e => by omega, fun i hi hp => ?_, fun i j hi hj hp hp' e => ?_⟩
  · by_cases ei : i = n
    · subst ei
      rw [put1_new] at hp ⊢
      rw [put1_new, put1_new]
      obtain ⟨a1, a2, a3, a4, a5⟩ := hs hp
      refine ⟨a1, a2.of_block (hg.block _ a2.lt (fun e => a4 e.symm)), a3, ?_⟩
      rcases hk with e | e
      · rw [e]; exact a4
      · rw [e]
        have := a2.lt
        simp only [ne_eq, Option.some.injEq]
        omega
    · have hi' : i < n := by omega
      rw [put1_old _ _ _ hi'] at hp ⊢
      rw [put1_old _ _ _ hi', put1_old _ _ _ hi']
      obtain ⟨a1, a2, a3, a4⟩ := h.sec i hi' hp
      exact ⟨a1, a2.of_block (hg.block _ a2.lt (fun e => a4 e.symm)), a3, old i hi' hp⟩
  · by_cases ei : i = n
    · by_cases ej : j = n
      · omega
      · have hj' : j < n := by omega
        subst ei
        rw [put1_new] at hp e
        rw [put1_old _ _ _ hj'] at hp' e
        exact absurd e.symm ((hs hp).2.2.2.2 j hj' hp')
    · have hi' : i < n := by omega
      by_cases ej : j = n
      · subst ej
        rw [put1_new] at hp' e
        rw [put1_old _ _ _ hi'] at hp e
        exact absurd e ((hs hp').2.2.2.2 i hi' hp)
      · have hj' : j < n := by omega
        rw [put1_old _ _ _ hi'] at hp e
        rw [put1_old _ _ _ hj'] at hp' e
        exact h.inj i j hi' hj' hp hp' e

theorem RowOrds.own {w : World} {lo : Nat} {u : Value} {n : Nat} {X : Nat → Ord} {gs : Nat → Nat} {sa : Nat → Option Addr} {sc : Nat → Nat} (h : RowOrds w lo u n X gs sa sc) :
    ∃ ad c G, u = .slice ad n c ∧ OwnOrds w lo ad n X G gs sa sc ∧ (0 < n → u.ownBlock = some G) := by
  obtain ⟨ad, c, G, hv, hp⟩ := pre_of_owns h.row
  refine ⟨ad, c, G, hv, ⟨fun p => (hp p).1, fun p => (hp p).2.2.1, fun p => (hp p).2.1, fun i hi q => ⟨(h.sec i hi q).1, (h.sec i hi q).2.1⟩, fun i hi q => ⟨(h.sec i hi q).2.2.1, fun e => (h.sec i hi q).2.2.2 ?_⟩, h.inj⟩, fun p => (hp p).2.2.2⟩
  rw [(hp (by omega)).2.2.2, e]

/-- Only the row's own block, and nothing below, has turned. -/
theorem grown_below {w w2 : World} {lo : Nat} {u : Value} (hg : w.grownBy w2 u.ownBlock) (hl : ∀ g, u.ownBlock = some g → lo ≤ g) (hb : lo ≤ w.heap.size) : Below lo w w2 :=
  ⟨hg.os, hg.tape, hg.output, hg.size, fun k hk => hg.block k (by omega) (fun e => by have := hl k e.symm; omega)⟩

end Go.Proofs.YtbgmgfnhmlpehaaDoor
