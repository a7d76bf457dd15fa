/-
 The contract of impl.OrderText. Mine, by template (wip/gen.py).
-/
import Derived.Test.YtdlaekjofgbjcaaGreatDoorBaseZ
import Derived.Test.YtdlaekjofgbjcaaGreatDoorIText
namespace Go.Proofs.YtdlaekjofgbjcaaGreatDoor
open Go.RowKit
set_option maxHeartbeats 2000000 in
theorem implOrderText_any (v : Value) (B : Bk) (i : Int) (w : World) (ho : B.orders.length ≤ 1048576) (hs : ∀ i, i < B.orders.length → (bX B i).secs.length ≤ 1048576 ∧ (bX B i).holder.size ≤ 1048576) (ht : Lib.TabIs Tryz.prog w "internal/strconv.uint64pow10" .u64 Lib.pow10Tab) (G : BookAt w v B) :
  Calls Tryz.prog 78 #[v, .int .i64 i] w fun e w' => RetT e B i ∧ Below w.heap.size w w' := by
 have G0 := G; obtain ⟨ao, co, al, cl, ac, cc, rfl, -⟩ := G; have HG : Hid (BookAt w (.agg #[.int .i64 B.n, .slice ao B.orders.length co, .slice al B.locked.length cl, .slice ac B.occ.length cc]) B) := G0; have HT : Hid (Lib.TabIs Tryz.prog w "internal/strconv.uint64pow10" .u64 Lib.pow10Tab) := ht; clear G0 ht
 go_enter Tryz.func78, Tryz.ntmps78
 go_wp2_with fail
 have B1 := below1 w (.cells #[.int .i64 B.n, .slice ao B.orders.length co, .slice al B.locked.length cl, .slice ac B.occ.length cc] 37); refine (implBookOk_any _ B _ ho hs (HG.out.below B1)).mono ?_; rintro e w1 ⟨⟨c, rfl, hc⟩, hb1⟩; have bx : w1.heap[w.heap.size]? = some (.cells #[.int .i64 B.n, .slice ao B.orders.length co, .slice al B.locked.length cl, .slice ac B.occ.length cc] 37 (0, 0)) := (hb1.block _ (by simp)).trans (Deep.blk_alloc_new _ _); have hbw1 : Below w.heap.size w w1 := B1.trans (hb1.mono (by simp)); have z1 : w.heap.size < w1.heap.size := by have := hb1.size; simp at this; omega
 clear hb1 B1
 by_cases c0 : c = 0
 case neg =>
  have HR : Hid (¬ Right B) := fun r => c0 (hc.right.2 r); have t : (c != 0) = true := by simpa using c0
  clear hc bx c0 hs; go_wp2; go_ret; exact ⟨⟨_, rfl, Or.inl ⟨fun h => HR.out h.1, rfl⟩⟩, hbw1⟩
 have HR : Hid (Right B) := hc.right.1 c0; subst c0; clear hc hs; have cx1 : w1.cell? ⟨w.heap.size, 1, none⟩ = some (.slice ao B.orders.length co) := by simp [World.cell?, bx]
 by_cases hi : 0 ≤ i
 case neg =>
  have t1 : decide (i < 0) = true := by simpa using hi
  clear cx1 bx; go_wp2; go_ret; exact ⟨⟨_, rfl, Or.inl ⟨fun h => by omega, rfl⟩⟩, hbw1⟩
 have t1 : decide (i < 0) = false := by simpa using hi
 by_cases hl : i < B.orders.length
 case neg =>
  have t2 : decide ((B.orders.length : Int) ≤ i) = true := by simpa using hl
  go_wp2; go_ret; exact ⟨⟨_, rfl, Or.inl ⟨fun h => by omega, rfl⟩⟩, hbw1⟩
 have t2 : decide ((B.orders.length : Int) ≤ i) = false := by simpa using hl
 obtain ⟨j, rfl⟩ : ∃ j : Nat, i = (j : Int) := ⟨i.toNat, by omega⟩; have hj : j < B.orders.length := by omega
 obtain ⟨ao', co', al', cl', ac', cc', eq, ⟨b, o, hd, g⟩, p2, p3⟩ := HG.out; obtain ⟨sa, sc, q⟩ := (show ∃ sa sc, OrdAt w b (o + j * 4) (bX B j) sa sc from g j hj)
 injection eq with eq
 simp at eq; obtain ⟨⟨rfl, rfl⟩, ⟨rfl, rfl⟩, rfl, rfl⟩ := eq; obtain rfl := hd (by omega); obtain ⟨x0, x1, x2, x3, x4⟩ := q.below hbw1; have p4 := p3.below hbw1; clear g hd p2 p3 q; have hO : B.orders.length ≤ 200 := HR.out.1.2.2.2; have hOk := HR.out.2.1 j hj; have hhs : (bX B j).holder.size ≤ 20 := hOk.1.2.2; have hns : (bX B j).secs.length ≤ 20 := hOk.2.2.1.2.2; have HOk : Hid (OrdOk (bX B j) B.n) := hOk; have cx3 : w1.cell? ⟨w.heap.size, 3, none⟩ = some (.slice ac B.occ.length cc) := by simp [World.cell?, bx]
 have HF : Hid (∀ W', Below (w1.heap.size + 1) ((w1.alloc (.cells #[.string (bX B j).holder, .int .i64 (bX B j).kind, .slice sa (bX B j).secs.length sc, .int .i64 (bX B j).state] 41)).alloc (.cells #[.pointer none, .slice none 0 0] 94)) W' → W'.cell? ⟨w1.heap.size, 0, none⟩ = some (.string (bX B j).holder) ∧ W'.cell? ⟨w1.heap.size, 1, none⟩ = some (.int .i64 (bX B j).kind) ∧ W'.cell? ⟨w1.heap.size, 2, none⟩ = some (.slice sa (bX B j).secs.length sc) ∧ W'.cell? ⟨w.heap.size, 3, none⟩ = some (.slice ac B.occ.length cc) ∧ Cells W' ac B.occ.length (bV B.occ) ∧ Cells W' sa (bX B j).secs.length (iV (bX B j).secs) ∧ Below w.heap.size w W') := by
  intro W' h; have hbb : Below w1.heap.size w1 W' := (below2 w1 _ _).trans (h.mono (by omega)); exact ⟨(h.cell (p := ⟨w1.heap.size, 0, none⟩) (by simp)).trans (by simp [World.cell?_alloc_some]), (h.cell (p := ⟨w1.heap.size, 1, none⟩) (by simp)).trans (by simp [World.cell?_alloc_some]), (h.cell (p := ⟨w1.heap.size, 2, none⟩) (by simp)).trans (by simp [World.cell?_alloc_some]), (hbb.cell (p := ⟨w.heap.size, 3, none⟩) z1).trans cx3, p4.below hbb, x4.below hbb, below_trans hbw1 hbw1.size hbb⟩
 have HB0 : Hid (Bld (w1.heap.size + 1) [] ((w1.alloc (.cells #[.string (bX B j).holder, .int .i64 (bX B j).kind, .slice sa (bX B j).secs.length sc, .int .i64 (bX B j).state] 41)).alloc (.cells #[.pointer none, .slice none 0 0] 94))) := by
  have h := Bld.fresh (w1.alloc (.cells #[.string (bX B j).holder, .int .i64 (bX B j).kind, .slice sa (bX B j).secs.length sc, .int .i64 (bX B j).state] 41)); simp at h; exact h
 clear hOk cx3 p4 x4 bx
 go_wp2_with fail
 clear x0 x1 x2 x3 cx1
 go_cut [] (fun wc => Bld (w1.heap.size + 1) (headT j (bX B j)) wc ∧ Below (w1.heap.size + 1) ((w1.alloc (.cells #[.string (bX B j).holder, .int .i64 (bX B j).kind, .slice sa (bX B j).secs.length sc, .int .i64 (bX B j).state] 41)).alloc (.cells #[.pointer none, .slice none 0 0] 94)) wc)
 case first =>
  rename_i J0 K0 hJ0 hK0
  refine wp_region_held_drew (S := (fun w' => w'.cell? ⟨w1.heap.size, 0, none⟩ = some (.string (bX B j).holder))) (by kernel_rfl) (by simp [World.cell?_alloc_some]) (fun hS0 => ?_); refine tk 0 rfl ?_; refine tk 4 rfl ?_; refine tk 5 rfl ?_; refine rdy1 1 rfl (fun K hK => ?_); go_simp; refine (itoa_any j _ (by omega) (tab_below HT.out (HF.out _ (Below.refl _ _).drew).2.2.2.2.2.2)).mono ?_; rintro e w3 ⟨⟨d, rfl, hdd⟩, hb⟩; have HD : Hid (bl d = Lib.decDigits j) := hdd; have hds : d.size ≤ 3 := by rw [← bl_size, hdd]; exact dec_len j (by omega)
  clear hdd; have hadd1 := fun W => run_string_add_sum (P := Tryz.prog) W ⟨#[111, 114, 100, 101, 114, 32]⟩ d (by have e1 : (ByteArray.mk #[111, 114, 100, 101, 114, 32]).size = 6 := rfl; omega); have hadd2 := fun W => run_string_add_sum (P := Tryz.prog) W (⟨#[111, 114, 100, 101, 114, 32]⟩ ++ d) ⟨#[32, 116, 111, 32]⟩ (by rw [ByteArray.size_append]; have e1 : (ByteArray.mk #[111, 114, 100, 101, 114, 32]).size = 6 := rfl; have e2 : (ByteArray.mk #[32, 116, 111, 32]).size = 4 := rfl; omega); have hadd3 := fun W => run_string_add_sum (P := Tryz.prog) W (⟨#[111, 114, 100, 101, 114, 32]⟩ ++ d ++ ⟨#[32, 116, 111, 32]⟩) (bX B j).holder (by rw [ByteArray.size_append, ByteArray.size_append]; have e1 : (ByteArray.mk #[111, 114, 100, 101, 114, 32]).size = 6 := rfl; have e2 : (ByteArray.mk #[32, 116, 111, 32]).size = 4 := rfl; omega); have hb3 : Below (w1.heap.size + 1) _ w3 := (Below.refl _ _).drew.trans (hb.mono (by simp)); have HB1 : Hid (Bld (w1.heap.size + 1) [] w3) := Bld.below HB0.out ((Below.refl _ _).drew.trans hb); refine hK.out _ _ (HF.out w3 hb3).1 (fun hS1 => ?_); clear hK K hb; refine tk 2 rfl ?_; refine tk 3 rfl ?_; refine tk 6 rfl ?_; refine rdy1 7 rfl (fun K hK => ?_); go_simp; refine (write_any _ [] _ _ HB1.out (by rw [ByteArray.size_append, ByteArray.size_append, ByteArray.size_append]; have e1 : (ByteArray.mk #[111, 114, 100, 101, 114, 32]).size = 6 := rfl; have e2 : (ByteArray.mk #[32, 116, 111, 32]).size = 4 := rfl; simp; omega)).mono ?_; rintro e w4 ⟨rfl, hB4, hb4⟩
  have HB4 : Hid (Bld (w1.heap.size + 1) (headT j (bX B j)) w4) := by
   rw [List.nil_append, bl_append, bl_append, bl_append, HD.out] at hB4; exact hB4
  have hb5 := hb3.trans hb4; clear hB4 hb4; refine hK.out _ _ (HF.out w4 hb5).1 (fun hS2 => ?_); clear hK K; refine wpAnyH_done (by kernel_rfl) ?_ _; go_simp; refine hK0 _ _ (Met.intro (hJ0 _ _ ?_))
  (repeat apply Exists.intro)
  refine ⟨?rel, rfl⟩
  case rel => exact ⟨HB4.out, hb5⟩
 case rest =>
  obtain ⟨hB, hb⟩ := hcut; have HB : Hid (Bld (w1.heap.size + 1) (headT j (bX B j)) wc) := hB
  have hL : (headT j (bX B j)).length ≤ 100 := by
   have h1 := dec_len j (by omega); unfold headT orderT toT; simp [bl_size]; omega
  clear hB HB0; obtain ⟨f0, f1, f2, f3, f4, f5, f6⟩ := HF.out wc hb; clear f0 f2 f3 f4 f5 f6
  go_upto_if 38 with (fail)
  clear f1
  go_cut [] (fun wc => Bld (w1.heap.size + 1) (baseT j (bX B j)) wc ∧ Below (w1.heap.size + 1) ((w1.alloc (.cells #[.string (bX B j).holder, .int .i64 (bX B j).kind, .slice sa (bX B j).secs.length sc, .int .i64 (bX B j).state] 41)).alloc (.cells #[.pointer none, .slice none 0 0] 94)) wc)
  case first =>
   by_cases hk : (bX B j).kind = 1
   ·
    have t1 : ((bX B j).kind == 1) = true := by simpa using hk
    have HK : Hid ((bX B j).kind = 1) := hk; clear hk
    go_wp2_with fail
    refine (write_any _ _ ⟨#[58, 32, 112, 97, 115, 115]⟩ _ HB.out (by have e1 : (ByteArray.mk #[58, 32, 112, 97, 115, 115]).size = 6 := rfl; omega)).mono ?_; rintro e w4 ⟨rfl, hB4, hb4⟩
    have HB4 : Hid (Bld (w1.heap.size + 1) (baseT j (bX B j)) w4) := by
     unfold baseT; rw [if_pos HK.out]; exact hB4
    have hb5 := hb.trans hb4; clear hB4 hb4; go_wp2
    go_meet
    case rel => exact ⟨HB4.out, hb5⟩
   ·
    have t1 : ((bX B j).kind == 1) = false := by simpa using hk
    have HK : Hid (¬ (bX B j).kind = 1) := hk; clear hk
    go_wp2_with fail
    refine (write_any _ _ ⟨#[58, 32, 119, 111, 114, 107, 32, 111, 110]⟩ _ HB.out (by have e1 : (ByteArray.mk #[58, 32, 119, 111, 114, 107, 32, 111, 110]).size = 9 := rfl; omega)).mono ?_; rintro e w4 ⟨rfl, hB4, hb4⟩
    have HB4 : Hid (Bld (w1.heap.size + 1) (baseT j (bX B j)) w4) := by
     unfold baseT; rw [if_neg HK.out]; exact hB4
    have hb5 := hb.trans hb4; clear hB4 hb4; go_wp2
    go_meet
    case rel => exact ⟨HB4.out, hb5⟩
  case rest =>
   have hL2 : (baseT j (bX B j)).length ≤ 109 := by
    unfold baseT passT workT; rw [List.length_append]
    split <;> simp <;> omega
   clear HB hb hL; obtain ⟨hB, hb⟩ := hcut; have HB : Hid (Bld (w1.heap.size + 1) (baseT j (bX B j)) wc) := hB; clear hB; obtain ⟨f0, f1, f2, f3, f4, f5, f6⟩ := HF.out wc hb; clear f0 f1 f3 f4 f5 f6; go_wp2; clear f2
   go_loopw [44] (fun q wr => ∃ k : Nat, k ≤ (bX B j).secs.length ∧ q = .int .i64 k ∧ (secT (bX B j) k).length ≤ 4 * k ∧ Bld (w1.heap.size + 1) (baseT j (bX B j) ++ secT (bX B j) k) wr ∧ Below (w1.heap.size + 1) ((w1.alloc (.cells #[.string (bX B j).holder, .int .i64 (bX B j).kind, .slice sa (bX B j).secs.length sc, .int .i64 (bX B j).state] 41)).alloc (.cells #[.pointer none, .slice none 0 0] 94)) wr) (fun q _ => (bX B j).secs.length - (intOf q).toNat)
   case atStart => exact ⟨0, Nat.zero_le _, rfl, by simp [secT], by simpa [secT] using HB.out, hb⟩
   case round =>
    obtain ⟨k, hk, rfl, hsl, hB, hbr⟩ := hrel; clear HB; have HB : Hid (Bld (w1.heap.size + 1) (baseT j (bX B j) ++ secT (bX B j) k) wr) := hB; clear hB
    by_cases hlt : k < (bX B j).secs.length
    ·
     have hV := HOk.out.2.2.1.1 k hlt; have hn60 := HR.out.1.1.2; obtain ⟨m, hm⟩ : ∃ m : Nat, sV (bX B j) k = (m : Int) := ⟨(sV (bX B j) k).toNat, by omega⟩; have hm3 : m < 60 := by omega
     obtain ⟨f0, f1, f2, f3, f4, f5, f6⟩ := HF.out wr hbr; obtain ⟨b2, o2, d2, g2⟩ := f5; obtain rfl := d2 (by omega); have e1 : wr.cell? ⟨b2, o2 + k, none⟩ = some (.int .i64 (m : Int)) := by rw [← hm]; exact g2 k hlt
     have HM : Hid (sV (bX B j) k = (m : Int)) := hm; clear g2 d2 hV hn60 hm f0 f1 f2 f3 f4 f6
     go_wp2_with fail
     refine (Tryz.strconv_Itoa_small m (by omega) _).mono ?_; rintro e w3 ⟨rfl, rfl⟩; have hd3 := dec_len m (by omega); have hadd1 := fun W => run_string_add_sum (P := Tryz.prog) W ⟨#[32]⟩ ⟨(Lib.decDigits m).toArray⟩ (by have e1 : (ByteArray.mk #[32]).size = 1 := rfl; have e2 : (ByteArray.mk (Lib.decDigits m).toArray).size = (Lib.decDigits m).length := (by simp [ByteArray.size]); omega); clear e1
     go_wp2_with fail
     refine (write_any _ _ _ _ HB.out (by rw [List.length_append, ByteArray.size_append]; have e1 : (ByteArray.mk #[32]).size = 1 := rfl; have e2 : (ByteArray.mk (Lib.decDigits m).toArray).size = (Lib.decDigits m).length := (by simp [ByteArray.size]); omega)).mono ?_; rintro e w4 ⟨rfl, hB4, hb4⟩; have hsec : secT (bX B j) (k + 1) = secT (bX B j) k ++ (32 :: Lib.decDigits m) := by rw [secT, HM.out]; rfl
     have HB4 : Hid (Bld (w1.heap.size + 1) (baseT j (bX B j) ++ secT (bX B j) (k + 1)) w4) := by
      rw [bl_append, bl_mk, List.append_assoc] at hB4; rw [hsec]; exact hB4
     have hb5 := hbr.trans hb4; have hs5 : (secT (bX B j) (k + 1)).length ≤ 4 * (k + 1) := by rw [hsec, List.length_append, List.length_cons]; omega
     clear hB4 hb4 hsec; go_wp2; go_roundw
     case rel => exact ⟨k + 1, by omega, by go_num, hs5, HB4.out, hb5⟩
     case measure => simp [intOf]; omega
    ·
     obtain rfl : k = (bX B j).secs.length := by omega
     obtain ⟨f0, f1, f2, f3, f4, f5, f6⟩ := HF.out wr hbr
     have hV : ∀ k, k < (bX B j).secs.length → 0 ≤ sV (bX B j) k ∧ sV (bX B j) k < B.occ.length := fun k hk => by
      have h1 := HOk.out.2.2.1.1 k hk; have h2 := HR.out.1.2.2.1; omega
     have HV := (show Hid (∀ k, k < (bX B j).secs.length → 0 ≤ sV (bX B j) k ∧ sV (bX B j) k < B.occ.length) from hV); have HC : Hid (Cells wr ac B.occ.length (bV B.occ) ∧ Cells wr sa (bX B j).secs.length (iV (bX B j).secs)) := ⟨f4, f5⟩; clear hV f0 f4 f5
     by_cases hk : (bX B j).kind = 1
     ·
      have t1 : ((bX B j).kind == 1) = true := by simpa using hk
      have HK : Hid ((bX B j).kind = 1) := hk; clear hk
      go_wp2_with fail
      refine (anyMarked_any ac sa cc sc B.occ (bX B j) _ (by omega) HV.out HC.out.1 HC.out.2).mono ?_; rintro e w6 ⟨hr, rfl⟩; rcases hr.cases with ⟨rfl, hp⟩ | ⟨rfl, hp⟩
      ·
       have HP : Hid (Sight B (bX B j)) := hp; clear hp hr
       go_wp2_with fail
       refine (write_any _ _ ⟨#[32, 111, 110, 32, 115, 105, 103, 104, 116]⟩ _ HB.out (by rw [List.length_append]; have e1 : (ByteArray.mk #[32, 111, 110, 32, 115, 105, 103, 104, 116]).size = 9 := rfl; omega)).mono ?_; rintro e w5 ⟨rfl, hB5, hb5⟩; have HB5 := (show Hid (Bld _ _ _) from hB5); have hb6 := hbr.trans hb5; clear hB5 hb5
       go_wp2_with fail
       refine (string_any _ _ _ HB5.out).mono ?_; rintro e w7 ⟨rfl, hb7⟩; have hbw7 := (HF.out w7 (hb6.trans hb7)).2.2.2.2.2.2; go_wp2; go_ret; refine ⟨⟨_, rfl, Or.inr ⟨HR.out, j, rfl, hj, ?_⟩⟩, hbw7⟩; rw [bl_mk]; exact Or.inl ⟨HK.out, HP.out, (List.append_assoc _ _ _).symm⟩
      ·
       have HP : Hid (¬ Sight B (bX B j)) := hp; clear hp hr
       go_wp2_with fail
       refine (string_any _ _ _ HB.out).mono ?_; rintro e w7 ⟨rfl, hb7⟩; have hbw7 := (HF.out w7 (hbr.trans hb7)).2.2.2.2.2.2; go_wp2; go_ret; refine ⟨⟨_, rfl, Or.inr ⟨HR.out, j, rfl, hj, ?_⟩⟩, hbw7⟩; rw [bl_mk]; exact Or.inr ⟨fun h => HP.out h.2, rfl⟩
     ·
      have t1 : ((bX B j).kind == 1) = false := by simpa using hk
      have HK : Hid (¬ (bX B j).kind = 1) := hk; clear hk
      go_wp2_with fail
      refine (string_any _ _ _ HB.out).mono ?_; rintro e w7 ⟨rfl, hb7⟩; have hbw7 := (HF.out w7 (hbr.trans hb7)).2.2.2.2.2.2; go_wp2; go_ret; refine ⟨⟨_, rfl, Or.inr ⟨HR.out, j, rfl, hj, ?_⟩⟩, hbw7⟩; rw [bl_mk]; exact Or.inr ⟨fun h => HK.out h.1, rfl⟩
end Go.Proofs.YtdlaekjofgbjcaaGreatDoor
