/- Contract of the model's CutOf. -/
import Derived.Test.YtgghkimjminbaaaCutOfI
set_option linter.all false
namespace Go.Proofs.Ytgghkimjminbaaa
open Go.RowKit
theorem specCutOf_any (X Y : Int) (A : Option Addr) (n c : Nat) (L : List Sq) (w : World) (hl : L.length = n) (hn : n ≤ 1048576) (hL : SqsAt w w.heap.size A L) :
    Calls Try.prog 34 #[.int .i64 X, .int .i64 Y, .slice A n c] w (RetCut w (cutX X Y (srt L) X) (cutX X Y (srt L) Y) (ifGood X Y (srt L) (srt L)) (dc (Good X Y (srt L)))) := by
  obtain ⟨W1, hW1⟩ : ∃ W1, W1 = w.alloc (.cells #[.int .i64 0, .int .i64 0, .slice none 0 0] 24) := ⟨_, rfl⟩
  have q1 : Bx w.heap.size W1 0 0 none 0 0 := by rw [hW1]; exact Bx.start _ _ _ _ _ _ _
  have qf : ∀ o, W1.frozen? ⟨w.heap.size, o, none⟩ = false := by intro o; rw [hW1]; exact World.frozen?_alloc_at _ _ _ _ rfl
  have hB1 : Below w.heap.size w W1 := by rw [hW1]; exact (Below.refl _ _).alloc (Nat.le_refl _) _
  have hz1 := q1.lt
  obtain ⟨P, hP⟩ : ∃ P, cutX X Y (srt L) X = P := ⟨_, rfl⟩
  obtain ⟨Q, hQ⟩ : ∃ Q, cutX X Y (srt L) Y = Q := ⟨_, rfl⟩
  obtain ⟨R, hR⟩ : ∃ R, ifGood X Y (srt L) (srt L) = R := ⟨_, rfl⟩
  obtain ⟨ok, hK⟩ : ∃ ok, dc (Good X Y (srt L)) = ok := ⟨_, rfl⟩
  have hm := cuMake_any X Y A n c L W1 hl hn ((hL.below hB1).mono hB1.size)
  unfold RetMake at hm
  rw [hP, hQ, hR, hK] at hm ⊢
  have HM := Lib.hid hm
  clear hm hP hQ hR hK
  go_enter Try.func34, Try.ntmps34
  go_wp2_with fail
  rw [← hW1]
  refine HM.out.mono ?_
  rintro e w2 ⟨A2, c2, rfl, ho2, hb2⟩
  have t0 := (hb2.frozen (p := ⟨w.heap.size, 0, none⟩) hz1).trans (qf 0)
  have t1 := (hb2.frozen (p := ⟨w.heap.size, 1, none⟩) hz1).trans (qf 1)
  have t2 := (hb2.frozen (p := ⟨w.heap.size, 2, none⟩) hz1).trans (qf 2)
  obtain ⟨_, r0, r1, r2⟩ := id (q1.next hb2)
  have hB2 := hB1.trans (hb2.mono hB1.size)
  clear q1 qf hb2 HM hW1
  go_wp2_with fail
  have hB := ((hB2.setCell (p := ⟨w.heap.size, 0, none⟩) (Nat.le_refl _) (.int .i64 P)).setCell (p := ⟨w.heap.size, 1, none⟩) (Nat.le_refl _) (.int .i64 Q)).setCell (p := ⟨w.heap.size, 2, none⟩) (Nat.le_refl _) (.slice A2 R.length c2)
  have RR := ownsRow_setCell_below (ownsRow_setCell_below (ownsRow_setCell_below ho2 (a := ⟨w.heap.size, 0, none⟩) hz1 (.int .i64 P)) (a := ⟨w.heap.size, 1, none⟩) hz1 (.int .i64 Q)) (a := ⟨w.heap.size, 2, none⟩) hz1 (.slice A2 R.length c2)
  refine bodyPost_ret (v := .tuple #[.agg #[.int .i64 P, .int .i64 Q, .slice A2 R.length c2], .bool ok]) (by simp [results, Try.results34, go_sem, r0, r1, r2]) rfl ?_
  exact RetCut.mk rfl (own_base RR (Nat.le_of_lt hz1)) hB
end Go.Proofs.Ytgghkimjminbaaa
