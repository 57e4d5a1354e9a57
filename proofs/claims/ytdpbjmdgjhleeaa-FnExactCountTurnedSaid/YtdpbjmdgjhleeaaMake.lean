/- Contract of the model's cuMake: a cut of squares in whichever order. -/
import Derived.Test.YtdpbjmdgjhleeaaTuM
import Derived.Test.YtdpbjmdgjhleeaaSrtT
set_option linter.all false
namespace Go.Proofs.Ytdpbjmdgjhleeaa
open Go.RowKit

theorem good_sort {X Y : Int} {L T : List Sq} (hp : T.Perm L) (hs : T.Pairwise (fun a b => leB a b = true)) : (Good X Y T ↔ Good X Y (srt L)) ∧ (Good X Y T → T = srt L) := by
  have h1 : Good X Y T → T = srt L := fun hG => srt_uniq hp hs (((good_fill hG).perm hp.symm).dist)
  refine ⟨⟨fun hG => h1 hG ▸ hG, fun hG => ?_⟩, h1⟩
  have := srt_uniq hp hs (((good_fill hG).perm (srt_perm L).symm).dist)
  rw [this]; exact hG
def RetMake (w : World) (X Y : Int) (L : List Sq) (e : Ending) (w' : World) : Prop :=
  RetCut w (cutX X Y (srt L) X) (cutX X Y (srt L) Y) (ifGood X Y (srt L) (srt L)) (dc (Good X Y (srt L))) e w'
theorem RetMake.no {w w' : World} {X Y : Int} {L : List Sq} (h : ¬ Good X Y (srt L)) (hb : Below w.heap.size w w') : RetMake w X Y L (.returned (.tuple #[.agg #[.int .i64 0, .int .i64 0, .slice none 0 0], .bool false])) w' := by
  unfold RetMake
  rw [cutX_no h, cutX_no h, ifGood_no h, dc_false h]
  exact RetCut.none_ hb

end Go.Proofs.Ytdpbjmdgjhleeaa
