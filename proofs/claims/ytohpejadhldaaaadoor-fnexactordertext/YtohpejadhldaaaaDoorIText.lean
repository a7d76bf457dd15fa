/-
  The contracts of impl.somebodyIn, impl.OrderText. Mine, by template (wip/gen.py).
-/
import Derived.Test.YtohpejadhldaaaaDoorText2
import Derived.Test.YtohpejadhldaaaaDoorIBook
import Derived.Test.YtohpejadhldaaaaDoorShelf
import Derived.Lib.AppendIntMem
import Derived.Lib.LaidTab
namespace Go.Proofs.YtohpejadhldaaaaDoor
open Go.RowKit

set_option maxHeartbeats 1000000 in
theorem somebodyIn_any (ac sa : Option Addr) (cc sc : Nat) (B : Bk) (x : Ord) (w : World) (hn : x.secs.length ≤ 4294967296) (hV : ∀ k, k < x.secs.length → 0 ≤ sV x k ∧ sV x k < B.occ.length) (G1 : Cells w ac B.occ.length (bV B.occ)) (G2 : Cells w sa x.secs.length (iV x.secs)) :
    Calls Tryd.prog 19 #[.slice ac B.occ.length cc, .slice sa x.secs.length sc] w fun e w' => RetB e (Sight B x) ∧ w' = w := by
  obtain ⟨b1, o1, d1, g1⟩ := G1
  obtain ⟨b2, o2, d2, g2⟩ := G2
  go_enter Tryd.func19, Tryd.ntmps19
  go_wp2
  go_loop [9] (fun i => ∃ k : Nat, k ≤ x.secs.length ∧ i = .int .i64 k ∧ ¬ SightTo B x k) (fun i => x.secs.length - (intOf i).toNat)
  case atStart => exact ⟨0, Nat.zero_le _, rfl, fun ⟨q, h, _⟩ => absurd h (by omega)⟩
  case round =>
    obtain ⟨k, hk, rfl, hall⟩ := hrel
    have HA : Hid (¬ SightTo B x k) := hall
    clear hall
    by_cases hlt : k < x.secs.length
    · obtain rfl := d2 (by omega)
      have hL := hV k hlt
      obtain ⟨m, hm⟩ : ∃ m : Nat, sV x k = (m : Int) := ⟨(sV x k).toNat, by omega⟩
      have hm2 : m < B.occ.length := by omega
      obtain rfl := d1 (by omega)
      have e1 : w.cell? ⟨b2, o2 + k, none⟩ = some (.int .i64 (m : Int)) := by rw [← hm]; exact g2 k hlt
      have HM : Hid (sV x k = (m : Int)) := hm
      clear g2 d2 hL hm hV d1
      cases ho : B.occ.getD m false with
      | true =>
        have e2 : w.cell? ⟨b1, o1 + m, none⟩ = some (.bool true) := by rw [← ho]; exact g1 m hm2
        have HO : Hid (SightTo B x x.secs.length) := ⟨k, hlt, by rw [HM.out]; exact ho⟩
        clear g1 ho
        go_wp2
        go_ret
        exact ⟨RetB.t HO.out, rfl⟩
      | false =>
        have e2 : w.cell? ⟨b1, o1 + m, none⟩ = some (.bool false) := by rw [← ho]; exact g1 m hm2
        have HO : Hid (¬ SightTo B x (k + 1)) := fun ⟨q, h1, h2⟩ => by
          by_cases c : q = k
          · subst c
            rw [HM.out] at h2
            have h3 : B.occ.getD m false = true := h2
            rw [ho] at h3
            cases h3
          · exact HA.out ⟨q, by omega, h2⟩
        clear g1 ho
        go_wp2
        go_round
        case rel => exact ⟨k + 1, by omega, by go_num, HO.out⟩
        case measure => simp [intOf]; omega
    · obtain rfl : k = x.secs.length := by omega
      clear g1 d1 g2 d2 hV
      go_wp2
      go_ret
      exact ⟨RetB.f HA.out, rfl⟩

theorem tab_below {P : Program} {w w' : World} {n : String} {k : IntKind} {zs : List Int} (h : Lib.TabIs P w n k zs) (hb : Below w.heap.size w w') : Lib.TabIs P w' n k zs := by
  unfold Lib.TabIs World.var? at h ⊢
  obtain ⟨g, hg, h⟩ := Option.bind_eq_some_iff.1 h
  refine Option.bind_eq_some_iff.2 ⟨g, hg, ?_⟩
  have hlt : g < w.heap.size := by
    rcases Nat.lt_or_ge g w.heap.size with h1 | h1
    · exact h1
    · rw [Array.getElem?_eq_none h1] at h
      cases h
  rw [hb.block g hlt]
  exact h

theorem builder_below {T e : TypeId} {B b : Nat} {p : Value} {bs : List Value} {w w' : World} (h : Lib.BuilderAt T e B b p bs w) (hb : Below w.heap.size w w') : Lib.BuilderAt T e B b p bs w' := by
  have hlt := h.lt
  obtain ⟨h1, v, h2, h3, h4⟩ := h
  exact ⟨h1, v, (hb.block b hlt).trans h2, h3.kept (row := none) ⟨hb.os, hb.tape, hb.output, hb.size, fun k hk _ => hb.block k hk⟩ (by cases hv : v.ownBlock <;> simp), h4⟩

/-- A builder that holds these letters. -/
def Bld (b : Nat) (l : List UInt8) (w : World) : Prop := Lib.IsBuilder 46 5 b b (Lib.byteCells l) w

theorem Bld.fresh (w : World) : Bld w.heap.size [] (w.alloc (.cells #[.pointer none, .slice none 0 0] 46)) := Lib.fresh_isBuilder _ _ w

theorem Bld.below {b : Nat} {l : List UInt8} {w w' : World} (h : Bld b l w) (hb : Below w.heap.size w w') : Bld b l w' := by
  rcases h with h | h
  · exact Or.inl (builder_below h hb)
  · exact Or.inr (builder_below h hb)

theorem Bld.lt {b : Nat} {l : List UInt8} {w : World} (h : Bld b l w) : b < w.heap.size := by
  rcases h with h | h <;> exact h.lt

theorem write_any (b : Nat) (l : List UInt8) (s : ByteArray) (w : World) (h : Bld b l w) (hlen : l.length + s.size ≤ 4294967296) :
    Calls Tryd.prog 17 #[.pointer (some ⟨b, 0, none⟩), .string s] w fun e w' => e = .returned (.tuple #[.int .i64 s.size, .nilIface]) ∧ Bld b (l ++ bl s) w' ∧ Below b w w' := by
  refine (Tryd.Builder_WriteString b b _ s w h (by rw [Lib.byteCells_length]; omega) (Nat.le_of_lt h.lt)).mono ?_
  rintro e w' ⟨rfl, h1, h2⟩
  refine ⟨rfl, Or.inr ?_, h2⟩
  rw [Lib.byteCells_append]
  exact h1

theorem string_any (b : Nat) (l : List UInt8) (w : World) (h : Bld b l w) :
    Calls Tryd.prog 20 #[.pointer (some ⟨b, 0, none⟩)] w fun e w' => e = .returned (.string ⟨l.toArray⟩) ∧ Below b w w' :=
  Tryd.Builder_String_any b b l w h (Nat.le_of_lt h.lt)

theorem itoa_any (n : Nat) (w : World) (h : n ≤ 9223372036854775807) (ht : Lib.TabIs Tryd.prog w "internal/strconv.uint64pow10" .u64 Lib.pow10Tab) :
    Calls Tryd.prog 18 #[.int .i64 n] w fun e w' => RetD e n ∧ Below w.heap.size w w' := by
  refine (Tryd.strconv_Itoa n (by omega) (by omega) w ht).mono ?_
  rintro e w' ⟨rfl, k, os, rfl⟩
  refine ⟨⟨_, rfl, ?_⟩, Lib.below_grow _ w (Nat.le_refl _) k os⟩
  rw [bl_mk]
  unfold Lib.itoa
  rw [if_neg (by omega)]
  simp

end Go.Proofs.YtohpejadhldaaaaDoor
