import Derived.Test.YtdlaekjofgbjcaaGreatDoorBaseZ
import Derived.Test.YtdlaekjofgbjcaaGreatDoorEvZ
import Derived.Maps.AppendAt
/-
 Books that own their memory: a state set, a flag set, an order more; lists copied by append. Mine, by template (wip/gen.py).
-/
namespace Go.Proofs.YtdlaekjofgbjcaaGreatDoor
open Go.RowKit
theorem getD_set {α : Type} (l : List α) (i j : Nat) (x d : α) (hi : i < l.length) : (l.set i x).getD j d = if j = i then x else l.getD j d := by
 by_cases e : j = i
 · subst e; simp [hi]
 ·
  rw [if_neg e]; simp [List.getD_eq_getElem?_getD, Ne.symm e]
theorem OwnOrds.setState {w : World} {lo : Nat} {ad : Option Addr} {n : Nat} {X : Nat → Ord} {G : Nat} {gs : Nat → Nat} {sa : Nat → Option Addr} {sc : Nat → Nat} (h : OwnOrds w lo ad n X G gs sa sc) {i : Nat} (hi : i < n) (s : Int) :
  OwnOrds (w.setCell ⟨G, i * 4 + 3, none⟩ (.int .i64 s)) lo ad n (fun j => if j = i then setSt (X i) s else X j) G gs sa sc := by
 have hs : ∀ j, (if j = i then setSt (X i) s else X j).secs = (X j).secs := fun j => by
  by_cases e : j = i
  · subst e; rw [if_pos rfl]; rfl
  · rw [if_neg e]
 refine ⟨h.head, fun hp => ((h.row hp).set _ _).congr (fun j hj => ?_), h.low, fun j hj hp => ?_, fun j hj hp => ?_, fun j k hj hk hp hp' => ?_⟩
 ·
  show (if j = i * 4 + 3 then Value.int .i64 s else ordCell (X (j / 4)) (sa (j / 4)) (sc (j / 4)) (j % 4)) = ordCell (if j / 4 = i then setSt (X i) s else X (j / 4)) (sa (j / 4)) (sc (j / 4)) (j % 4)
  by_cases e : j / 4 = i
  ·
   rw [if_pos e]; subst e; rcases (show j % 4 = 0 ∨ j % 4 = 1 ∨ j % 4 = 2 ∨ j % 4 = 3 by omega) with q | q | q | q
   · rw [if_neg (by omega), q]; rfl
   · rw [if_neg (by omega), q]; rfl
   · rw [if_neg (by omega), q]; rfl
   · rw [if_pos (by omega), q]; rfl
  · rw [if_neg (by omega), if_neg e]
 ·
  simp only [hs] at hp ⊢; exact ⟨(h.sec j hj hp).1, (h.sec j hj hp).2.setOther (h.slow j hj hp).2 _⟩
 ·
  simp only [hs] at hp; exact h.slow j hj hp
 ·
  simp only [hs] at hp hp'; exact h.inj j k hj hk hp hp'
theorem OwnBools.setAt {w : World} {lo : Nat} {ad : Option Addr} {n : Nat} {V : Nat → Bool} {G : Nat} (h : OwnBools w lo ad n V G) (i : Nat) (r : Bool) :
  OwnBools (w.setCell ⟨G, i, none⟩ (.bool r)) lo ad n (fun j => if j = i then r else V j) G :=
 ⟨h.head, fun hp => ((h.row hp).set i _).congr (fun j _ => by by_cases e : j = i <;> simp [e]), h.low⟩
theorem OwnBools.congr {w : World} {lo : Nat} {ad : Option Addr} {n : Nat} {V U : Nat → Bool} {G : Nat} (h : OwnBools w lo ad n V G) (e : ∀ i, i < n → V i = U i) : OwnBools w lo ad n U G :=
 ⟨h.head, fun hp => (h.row hp).congr (fun i hi => by rw [e i hi]), h.low⟩
theorem OwnBools.setOther {w : World} {lo : Nat} {ad : Option Addr} {n : Nat} {V : Nat → Bool} {G : Nat} (h : OwnBools w lo ad n V G) {a : Addr} (ha : 0 < n → G ≠ a.block) (u : Value) : OwnBools (w.setCell a u) lo ad n V G :=
 ⟨h.head, fun hp => (h.row hp).setOther (ha hp) _, h.low⟩
theorem OwnOrds.setOther {w : World} {lo : Nat} {ad : Option Addr} {n : Nat} {X : Nat → Ord} {G : Nat} {gs : Nat → Nat} {sa : Nat → Option Addr} {sc : Nat → Nat} (h : OwnOrds w lo ad n X G gs sa sc) {a : Addr} (ha : ∀ b, ordBlocks n X G gs b → b ≠ a.block) (u : Value) : OwnOrds (w.setCell a u) lo ad n X G gs sa sc :=
 ⟨h.head, fun hp => (h.row hp).setOther (ha _ (Or.inl ⟨hp, rfl⟩)) _, h.low, fun i hi hp => ⟨(h.sec i hi hp).1, (h.sec i hi hp).2.setOther (ha _ (Or.inr ⟨i, hi, hp, rfl⟩)) _⟩, h.slow, h.inj⟩
theorem OwnBook.setOther {w : World} {lo : Nat} {v : Value} {B : Bk} {K : Blk} (h : OwnBook w lo v B K) {a : Addr} (ha : ∀ b, bookBlocks B K b → b ≠ a.block) (u : Value) : OwnBook (w.setCell a u) lo v B K := by
 obtain ⟨⟨ao, co, al, cl, ac, cc, e, h1, h2, h3⟩, q1, q2, q3, q4, q5⟩ := h; exact ⟨⟨ao, co, al, cl, ac, cc, e, h1.setOther (fun b hb => ha b (Or.inl hb)) u, h2.setOther (fun hp => ha _ (Or.inr (Or.inl ⟨hp, rfl⟩))) u, h3.setOther (fun hp => ha _ (Or.inr (Or.inr ⟨hp, rfl⟩))) u⟩, q1, q2, q3, q4, q5⟩
theorem set_secs (B : Bk) (i : Nat) (s : Int) (hi : i < B.orders.length) (j : Nat) : ((setState B i s).orders.getD j Ord.zero).secs = (B.orders.getD j Ord.zero).secs := by
 show ((B.orders.set i (setSt (bX B i) s)).getD j Ord.zero).secs = _
 rw [getD_set _ _ _ _ _ hi]
 by_cases e : j = i
 · subst e; rw [if_pos rfl]; rfl
 · rw [if_neg e]
theorem bX_set (B : Bk) (i : Nat) (s : Int) (hi : i < B.orders.length) (j : Nat) : bX (setState B i s) j = if j = i then setSt (bX B i) s else bX B j := getD_set _ _ _ _ _ hi
theorem set_len (B : Bk) (i : Nat) (s : Int) : (setState B i s).orders.length = B.orders.length := by simp [setState]
theorem OwnBook.setState {w : World} {lo : Nat} {v : Value} {B : Bk} {K : Blk} (h : OwnBook w lo v B K) {i : Nat} (hi : i < B.orders.length) (s : Int) : OwnBook (w.setCell ⟨K.G, i * 4 + 3, none⟩ (.int .i64 s)) lo v (setState B i s) K := by
 obtain ⟨⟨ao, co, al, cl, ac, cc, e, h1, h2, h3⟩, q1, q2, q3, q4, q5⟩ := h; have hn : 0 < B.orders.length := by omega
 have hl := set_len B i s; refine ⟨⟨ao, co, al, cl, ac, cc, by rw [hl]; exact e, ?_, h2.setOther (fun hp => q1 hn hp) _, h3.setOther (fun hp => q2 hn hp) _⟩, fun a b => q1 (by rw [hl] at a; exact a) b, fun a b => q2 (by rw [hl] at a; exact a) b, q3, fun a j hj hp => q4 a j (by rw [hl] at hj; exact hj) (by rw [set_secs B i s hi] at hp; exact hp), fun a j hj hp => q5 a j (by rw [hl] at hj; exact hj) (by rw [set_secs B i s hi] at hp; exact hp)⟩; rw [hl]; exact (h1.setState hi s).congr (fun j _ => (bX_set B i s hi j).symm)
theorem OwnBook.setLock {w : World} {lo : Nat} {v : Value} {B : Bk} {K : Blk} (h : OwnBook w lo v B K) {i : Nat} (hi : i < B.locked.length) (r : Bool) : OwnBook (w.setCell ⟨K.L, i, none⟩ (.bool r)) lo v (setLock B i r) K := by
 obtain ⟨⟨ao, co, al, cl, ac, cc, e, h1, h2, h3⟩, q1, q2, q3, q4, q5⟩ := h; have hn : 0 < B.locked.length := by omega
 have hl : (B.locked.set i r).length = B.locked.length := by simp
 refine ⟨⟨ao, co, al, cl, ac, cc, ?_, h1.setOther (fun b hb => ?_) _, ?_, h3.setOther (fun hp => (q3 hn hp).symm) _⟩, fun a b => q1 a (hl ▸ b), q2, fun a b => q3 (hl ▸ a) b, fun a => q4 (hl ▸ a), q5⟩
 ·
  show v = .agg #[_, _, .slice al (B.locked.set i r).length cl, _]
  rw [hl]; exact e
 ·
  rcases hb with ⟨hp, rfl⟩ | ⟨j, hj, hp, rfl⟩
  · exact (q1 hp hn).symm
  · exact q4 hn j hj hp
 ·
  show OwnBools _ lo al (B.locked.set i r).length (fun j => (B.locked.set i r).getD j false) K.L
  rw [hl]; exact (h2.setAt i r).congr (fun j _ => (getD_set _ _ _ _ _ hi).symm)
theorem OwnBook.setOcc {w : World} {lo : Nat} {v : Value} {B : Bk} {K : Blk} (h : OwnBook w lo v B K) {i : Nat} (hi : i < B.occ.length) (r : Bool) : OwnBook (w.setCell ⟨K.C, i, none⟩ (.bool r)) lo v (setOcc B i r) K := by
 obtain ⟨⟨ao, co, al, cl, ac, cc, e, h1, h2, h3⟩, q1, q2, q3, q4, q5⟩ := h; have hn : 0 < B.occ.length := by omega
 have hl : (B.occ.set i r).length = B.occ.length := by simp
 refine ⟨⟨ao, co, al, cl, ac, cc, ?_, h1.setOther (fun b hb => ?_) _, h2.setOther (fun hp => q3 hp hn) _, ?_⟩, q1, fun a b => q2 a (hl ▸ b), fun a b => q3 a (hl ▸ b), q4, fun a => q5 (hl ▸ a)⟩
 ·
  show v = .agg #[_, _, _, .slice ac (B.occ.set i r).length cc]
  rw [hl]; exact e
 ·
  rcases hb with ⟨hp, rfl⟩ | ⟨j, hj, hp, rfl⟩
  · exact (q2 hp hn).symm
  · exact q5 hn j hj hp
 ·
  show OwnBools _ lo ac (B.occ.set i r).length (fun j => (B.occ.set i r).getD j false) K.C
  rw [hl]; exact (h3.setAt i r).congr (fun j _ => (getD_set _ _ _ _ _ hi).symm)
end Go.Proofs.YtdlaekjofgbjcaaGreatDoor
/-
 Slices made by append: lists copied, an order more. Mine, by template (wip/gen.py).
-/
namespace Go.Proofs.YtdlaekjofgbjcaaGreatDoor
open Go.RowKit
/-! ### A list of cells appended -/
theorem run_append_cells {P : Program} (w : World) (base : Nat) (t ty e : TypeId) (i : TypeInfo) (z : Value) (bytes : Nat) (ht : P.underlying t = some (.slice e)) (hi : P.info? e = some i) (hz : i.zero = some z)
  (hsize : i.size = 1) (hby : i.bytes = bytes) (hzs : z.cells.size = 1) (v : Value) (n : Nat) (xs : List Value) (hown : w.ownsRow base e 1 v n xs)
  (ad : Option Addr) (m c : Nat) (V : Nat → Value) (K : Cells w ad m V) (h1 : ∀ j, (V j).oneCell' = true) (h63 : n + m ≤ maxLen) (hbytes : (n + m) * bytes ≤ 140737488355328) (hbase : base ≤ w.heap.size) :
  ∃ v' w', (Builtin.append_ #[t, t] ty #[v, .slice ad m c]).run P w = .ok v' w' ∧ w'.ownsRow base e 1 v' (n + m) (xs ++ (List.range m).map V) ∧ w.grownBy w' v.ownBlock ∧ (v' = .slice none 0 0 ↔ v = .slice none 0 0 ∧ m = 0) ∧ (v'.ownBlock = v.ownBlock ∨ v'.ownBlock = some w.heap.size) := by
 obtain ⟨b, o, hd, g⟩ := K; cases ad with
 | none =>
  have hm : m = 0 := by
   rcases Nat.eq_zero_or_pos m with h | h
   · exact h
   · cases hd h
  subst hm; refine ⟨v, w, ?_, by simpa using hown, ⟨rfl, rfl, rfl, Nat.le_refl _, fun _ _ _ => rfl⟩, by simp, Or.inl rfl⟩; rcases hown.2 with ⟨rfl, rfl⟩ | ⟨g', cap, cur, rfl, _, _, hnc, _⟩
  · simp [Builtin.append_, run_underlying ht, sizeOf, typeInfo, hi, Builtin.lenOf, Builtin.firstCells]
  · simp [Builtin.append_, run_underlying ht, sizeOf, typeInfo, hi, Builtin.lenOf, Builtin.firstCells, hnc, storeCells]
 | some a =>
  have hn : ∀ j u, ((List.range m).map V)[j]? = some u → w.cell? (a.add j) = some u := by
   intro j u hu
   have hj : j < m := by
    have := (List.getElem?_eq_some_iff.1 hu).1
    simpa using this
   have hu' : V j = u := by simpa [hj] using hu
   have ea := hd (by omega); simp only [Option.some.injEq] at ea; subst ea; rw [← hu']; rw [show (⟨b, o, none⟩ : Addr).add j = ⟨b, o + j, none⟩ from by simp [Addr.add]]; exact g j hj
  obtain ⟨v', w', hr, h2, h3, h4, h5⟩ := run_append_own_at (P := P) w base t ty e i z 1 bytes ht hi hz hsize hby hzs (by omega) v n xs hown a m c ((List.range m).map V) (by simp) hn (fun u hu => by obtain ⟨j, _, rfl⟩ := List.mem_map.1 hu; exact h1 j) h63 hbytes hbase; exact ⟨v', w', hr, h2, h3, h4, h5⟩
theorem wpList_append_cells {P : Program} (w : World) {ops : Array Oper} {rest : List Oper} {o : Oper} {a : Act} {Q : Exit → Act → World → Prop} (hgd : o.guard = none) (s x : Operand) (t : TypeId)
  (ho : o.op = .call { callee := .builtin .append, args := #[s, x], argTypes := #[t, t] })
  (base : Nat) (e : TypeId) (i : TypeInfo) (z : Value) (bytes : Nat) (ht : P.underlying t = some (.slice e)) (hi : P.info? e = some i) (hz : i.zero = some z)
  (hsize : i.size = 1) (hby : i.bytes = bytes) (hzs : z.cells.size = 1) (v : Value) (n : Nat) (xs : List Value) (hs : a.eval s = v) (hown : w.ownsRow base e 1 v n xs)
  (ad : Option Addr) (m c : Nat) (V : Nat → Value) (hx : a.eval x = .slice ad m c) (K : Cells w ad m V) (h1 : ∀ j, (V j).oneCell' = true) (h63 : n + m ≤ maxLen) (hbytes : (n + m) * bytes ≤ 140737488355328) (hbase : base ≤ w.heap.size)
  (h : ∀ v' w', w'.ownsRow base e 1 v' (n + m) (xs ++ (List.range m).map V) → w.grownBy w' v.ownBlock → (v' = .slice none 0 0 ↔ v = .slice none 0 0 ∧ m = 0) → (v'.ownBlock = v.ownBlock ∨ v'.ownBlock = some w.heap.size) → wpList P ops Q rest (a.put o.dst v') w') :
  wpList P ops Q (o :: rest) a w := by
 refine wpList_plain hgd fun K' hK => ?_; obtain ⟨v', w', hr, h2, h3, h4, h5⟩ := run_append_cells (P := P) w base t o.type e i z bytes ht hi hz hsize hby hzs v n xs hown ad m c V K h1 h63 hbytes hbase; unfold Oper.wp execOp; simp only [ho, resolve, invoke, builtin, Sem.run_bind, Sem.run_pure, Result.andThen_ok, List.map_toArray, List.map_cons, List.map_nil, hs, hx, hr]; exact hK _ _ (h v' w' h2 h3 h4 h5)
theorem pre_of_owns {w : World} {base : Nat} {e : TypeId} {size : Nat} {v : Value} {n : Nat} {V : Nat → Value} (h : w.ownsRow base e size v n ((List.range (n * size)).map V)) :
  ∃ ad c G, v = .slice ad n c ∧ (0 < n → ad = some ⟨G, 0, none⟩ ∧ base ≤ G ∧ Pre w G e (n * size) V ∧ v.ownBlock = some G) := by
 obtain ⟨_, h2⟩ := h; rcases h2 with ⟨rfl, rfl⟩ | ⟨g, cap, cur, rfl, h1, h3, h4, _, h5, h6⟩
 · exact ⟨none, 0, 0, rfl, fun h => absurd h (by omega)⟩
 ·
  refine ⟨_, cap, g, rfl, fun _ => ⟨rfl, h1, ⟨cur, h3, by rw [h5]; exact Nat.mul_le_mul_right _ h4, fun i hi => ?_⟩, rfl⟩⟩; have e : (cur.toList.take (n * size))[i]? = ((List.range (n * size)).map V)[i]? := by rw [h6]
  rw [List.getElem?_take, if_pos (by omega)] at e; rw [← Array.getElem?_toList, e]; simp [hi]
theorem owns_of_block {w w' : World} {lo : Nat} {e : TypeId} {s : Nat} {v : Value} {n : Nat} {xs : List Value} (h : w.ownsRow lo e s v n xs) (hb : ∀ g, v.ownBlock = some g → w'.heap[g]? = w.heap[g]?) : w'.ownsRow lo e s v n xs := by
 obtain ⟨h1, h2⟩ := h; refine ⟨h1, ?_⟩; rcases h2 with h2 | ⟨g, cap, cur, hv, hg, hh, r⟩
 · exact Or.inl h2
 · exact Or.inr ⟨g, cap, cur, hv, hg, (hb g (by rw [hv]; rfl)).trans hh, r⟩
theorem owns_lt {w : World} {lo : Nat} {e : TypeId} {s : Nat} {v : Value} {n : Nat} {xs : List Value} (h : w.ownsRow lo e s v n xs) {g : Nat} (hg : v.ownBlock = some g) : lo ≤ g ∧ g < w.heap.size := by
 obtain ⟨_, h2⟩ := h; rcases h2 with ⟨rfl, _⟩ | ⟨g', cap, cur, rfl, hl, hh, _⟩
 · cases hg
 ·
  simp only [Value.ownBlock, Option.some.injEq] at hg; subst hg; exact ⟨hl, (Array.getElem?_eq_some_iff.1 hh).1⟩
theorem owns_below {w w' : World} {lo : Nat} {e : TypeId} {s : Nat} {v : Value} {n : Nat} {xs : List Value} (h : w.ownsRow lo e s v n xs) (hb : Below w.heap.size w w') : w'.ownsRow lo e s v n xs :=
 owns_of_block h (fun _ hg => hb.block _ (owns_lt h hg).2)
theorem ownBools_of {w : World} {lo : Nat} {v : Value} {n : Nat} {V : Nat → Bool} (h : w.ownsRow lo 4 1 v n ((List.range n).map (fun i => Value.bool (V i)))) : ∃ ad c G, v = .slice ad n c ∧ OwnBools w lo ad n V G ∧ (0 < n → v.ownBlock = some G) := by
 obtain ⟨ad, c, G, hv, hp⟩ := pre_of_owns (size := 1) (V := fun i => Value.bool (V i)) (by rw [Nat.mul_one]; exact h); simp only [Nat.mul_one] at hp; exact ⟨ad, c, G, hv, ⟨fun p => (hp p).1, fun p => (hp p).2.2.1, fun p => (hp p).2.1⟩, fun p => (hp p).2.2.2⟩
/-! ### Orders, one by one -/
def flat (X : Nat → Ord) (sa : Nat → Option Addr) (sc : Nat → Nat) (n : Nat) : List Value := (List.range (n * 4)).map (ordCells X sa sc)
def cellsOf (x : Ord) (s : Option Addr) (c : Nat) : List Value := [.string x.holder, .int .i64 x.kind, .slice s x.secs.length c, .int .i64 x.state]
def put1 {α : Type} (f : Nat → α) (n : Nat) (x : α) (i : Nat) : α := if i = n then x else f i
theorem put1_new {α : Type} (f : Nat → α) (n : Nat) (x : α) : put1 f n x n = x := if_pos rfl
theorem put1_old {α : Type} (f : Nat → α) (n : Nat) (x : α) {i : Nat} (h : i < n) : put1 f n x i = f i := if_neg (by omega)
theorem flat_succ (X : Nat → Ord) (sa : Nat → Option Addr) (sc : Nat → Nat) (n : Nat) (x : Ord) (s : Option Addr) (c : Nat) :
  flat (put1 X n x) (put1 sa n s) (put1 sc n c) (n + 1) = flat X sa sc n ++ cellsOf x s c := by
 unfold flat; rw [show (n + 1) * 4 = n * 4 + 4 by omega, List.range_add, List.map_append]
 congr 1
 ·
  refine List.map_congr_left (fun j hj => ?_); have hj' : j < n * 4 := List.mem_range.1 hj; unfold ordCells; rw [put1_old X n x (i := j / 4) (by omega), put1_old sa n s (i := j / 4) (by omega), put1_old sc n c (i := j / 4) (by omega)]
 ·
  have d : ∀ r, r < 4 → ordCells (put1 X n x) (put1 sa n s) (put1 sc n c) (n * 4 + r) = ordCell x s c r := fun r hr => by
   unfold ordCells; rw [show (n * 4 + r) / 4 = n by omega, show (n * 4 + r) % 4 = r by omega, put1_new, put1_new, put1_new]
  simp only [List.map_map]; rw [show List.range 4 = [0, 1, 2, 3] from rfl]; simp only [List.map_cons, List.map_nil, Function.comp]; rw [d 0 (by omega), d 1 (by omega), d 2 (by omega), d 3 (by omega)]; rfl
structure RowOrds (w : World) (lo : Nat) (u : Value) (n : Nat) (X : Nat → Ord) (gs : Nat → Nat) (sa : Nat → Option Addr) (sc : Nat → Nat) : Prop where
 row : w.ownsRow lo 41 4 u n (flat X sa sc n)
 nil : n = 0 → u = .slice none 0 0
 sec : ∀ i, i < n → 0 < (X i).secs.length → sa i = some ⟨gs i, 0, none⟩ ∧ Pre w (gs i) 3 (X i).secs.length (iV (X i).secs) ∧ lo ≤ gs i ∧ u.ownBlock ≠ some (gs i)
 inj : ∀ i j, i < n → j < n → 0 < (X i).secs.length → 0 < (X j).secs.length → gs i = gs j → i = j
theorem RowOrds.start (w : World) (lo : Nat) (X : Nat → Ord) (gs : Nat → Nat) (sa : Nat → Option Addr) (sc : Nat → Nat) : RowOrds w lo (.slice none 0 0) 0 X gs sa sc :=
 ⟨World.ownsRow_nil _ _ _ _, fun _ => rfl, fun i hi => absurd hi (by omega), fun i j hi => absurd hi (by omega)⟩
theorem RowOrds.below {w w' : World} {lo : Nat} {u : Value} {n : Nat} {X : Nat → Ord} {gs : Nat → Nat} {sa : Nat → Option Addr} {sc : Nat → Nat} (h : RowOrds w lo u n X gs sa sc) (hb : Below w.heap.size w w') : RowOrds w' lo u n X gs sa sc :=
 ⟨owns_below h.row hb, h.nil, fun i hi hp => ⟨(h.sec i hi hp).1, (h.sec i hi hp).2.1.of_block (hb.block _ (h.sec i hi hp).2.1.lt), (h.sec i hi hp).2.2⟩, h.inj⟩
theorem RowOrds.push {w w2 : World} {lo : Nat} {u u2 : Value} {n : Nat} {X : Nat → Ord} {gs : Nat → Nat} {sa : Nat → Option Addr} {sc : Nat → Nat} (h : RowOrds w lo u n X gs sa sc) (x : Ord) (g : Nat) (s : Option Addr) (c : Nat)
  (hs : 0 < x.secs.length → s = some ⟨g, 0, none⟩ ∧ Pre w g 3 x.secs.length (iV x.secs) ∧ lo ≤ g ∧ u.ownBlock ≠ some g ∧ ∀ i, i < n → 0 < (X i).secs.length → gs i ≠ g)
  (h2 : w2.ownsRow lo 41 4 u2 (n + 1) (flat X sa sc n ++ cellsOf x s c)) (hg : w.grownBy w2 u.ownBlock) (hk : u2.ownBlock = u.ownBlock ∨ u2.ownBlock = some w.heap.size) :
  RowOrds w2 lo u2 (n + 1) (put1 X n x) (put1 gs n g) (put1 sa n s) (put1 sc n c) := by
 have old : ∀ i, i < n → 0 < (X i).secs.length → u2.ownBlock ≠ some (gs i) := fun i hi hp => by
  rcases hk with e | e
  · rw [e]; exact (h.sec i hi hp).2.2.2
  ·
   rw [e]; have := (h.sec i hi hp).2.1.lt; simp only [ne_eq, Option.some.injEq]; omega
 refine ⟨by rw [flat_succ]; exact h2, fun e => by omega, fun i hi hp => ?_, fun i j hi hj hp hp' e => ?_⟩
 ·
  by_cases ei : i = n
  ·
   subst ei; rw [put1_new] at hp ⊢; rw [put1_new, put1_new]; obtain ⟨a1, a2, a3, a4, a5⟩ := hs hp; refine ⟨a1, a2.of_block (hg.block _ a2.lt (fun e => a4 e.symm)), a3, ?_⟩; rcases hk with e | e
   · rw [e]; exact a4
   ·
    rw [e]; have := a2.lt; simp only [ne_eq, Option.some.injEq]; omega
  ·
   have hi' : i < n := by omega
   rw [put1_old _ _ _ hi'] at hp ⊢; rw [put1_old _ _ _ hi', put1_old _ _ _ hi']; obtain ⟨a1, a2, a3, a4⟩ := h.sec i hi' hp; exact ⟨a1, a2.of_block (hg.block _ a2.lt (fun e => a4 e.symm)), a3, old i hi' hp⟩
 ·
  by_cases ei : i = n
  ·
   by_cases ej : j = n
   · omega
   ·
    have hj' : j < n := by omega
    subst ei; rw [put1_new] at hp e; rw [put1_old _ _ _ hj'] at hp' e; exact absurd e.symm ((hs hp).2.2.2.2 j hj' hp')
  ·
   have hi' : i < n := by omega
   by_cases ej : j = n
   ·
    subst ej; rw [put1_new] at hp' e; rw [put1_old _ _ _ hi'] at hp e; exact absurd e ((hs hp').2.2.2.2 i hi' hp)
   ·
    have hj' : j < n := by omega
    rw [put1_old _ _ _ hi'] at hp e; rw [put1_old _ _ _ hj'] at hp' e; exact h.inj i j hi' hj' hp hp' e
theorem RowOrds.own {w : World} {lo : Nat} {u : Value} {n : Nat} {X : Nat → Ord} {gs : Nat → Nat} {sa : Nat → Option Addr} {sc : Nat → Nat} (h : RowOrds w lo u n X gs sa sc) :
  ∃ ad c G, u = .slice ad n c ∧ OwnOrds w lo ad n X G gs sa sc ∧ (0 < n → u.ownBlock = some G) := by
 obtain ⟨ad, c, G, hv, hp⟩ := pre_of_owns h.row; refine ⟨ad, c, G, hv, ⟨fun p => (hp p).1, fun p => (hp p).2.2.1, fun p => (hp p).2.1, fun i hi q => ⟨(h.sec i hi q).1, (h.sec i hi q).2.1⟩, fun i hi q => ⟨(h.sec i hi q).2.2.1, fun e => (h.sec i hi q).2.2.2 ?_⟩, h.inj⟩, fun p => (hp p).2.2.2⟩; rw [(hp (by omega)).2.2.2, e]
theorem grown_below {w w2 : World} {lo : Nat} {u : Value} (hg : w.grownBy w2 u.ownBlock) (hl : ∀ g, u.ownBlock = some g → lo ≤ g) (hb : lo ≤ w.heap.size) : Below lo w w2 :=
 ⟨hg.os, hg.tape, hg.output, hg.size, fun k hk => hg.block k (by omega) (fun e => by have := hl k e.symm; omega)⟩
end Go.Proofs.YtdlaekjofgbjcaaGreatDoor
