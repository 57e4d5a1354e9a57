/- What the laid variables give; a row's wrap that keeps the world's shape. -/
import Derived.Test.YtfkifcjjkaenhaaGreatDoorPn
import Derived.Lay
import Derived.Stop.LaidErr
import Derived.MakeChecks
import Derived.LaidMore
import Derived.LaidLaws
import Derived.HandedShaped
import Derived.Handed
set_option linter.all false
namespace Go.Proofs.YtfkifcjjkaenhaaGreatDoor
open Go.RowKit

theorem star_es : "*" ++ "errors.errorString" = "*errors.errorString" := by decide
theorem row_es (u : TypeId) (h : Tryz.prog.typeName? 3 u = some "*errors.errorString") : u = 119 :=
  typeName_ptr_named (nm := "errors.errorString") (by rw [star_es]; kernel_rfl) (by kernel_rfl) (by decide) u (by rw [star_es]; exact h)
theorem strOk_of {W : World} (h : laidMetH Tryz.prog [("math/bits.deBruijn32tab", Rows.laid_math_bits_deBruijn32tab), ("math/bits.deBruijn64tab", Rows.laid_math_bits_deBruijn64tab), ("internal/strconv.uint64pow10", Rows.laid_internal_strconv_uint64pow10), ("unicode/utf8.acceptRanges", Rows.laid_unicode_utf8_acceptRanges), ("strconv.ErrRange", Rows.laid_strconv_ErrRange), ("strconv.ErrSyntax", Rows.laid_strconv_ErrSyntax), ("unicode/utf8.first", Rows.laid_unicode_utf8_first)] W) (hsh : W.ShapedOpen Tryz.prog) : StrOk W := by
  rw [MakeChecks.laidMetH_plain _ _ _ (by kernel_rfl)] at h
  have h2 := (h.tail).tail
  have h4 := (h2.tail).tail
  have h5 := h4.tail
  refine ⟨?_, Tryz.laysM147.s1_3 W hsh, ?_, ?_⟩
  · have e : (Rows.laid_internal_strconv_uint64pow10 : DataW Unit) = Lib.tabData .u64 Lib.pow10Tab := rfl
    rw [e] at h2
    exact Lib.tabIs_of_head (P := Tryz.prog) (g := 5) (t := 123) (e := 94) (n := 20) (by kernel_rfl) (by kernel_rfl) (by kernel_rfl) (by kernel_rfl) (by kernel_rfl) (by kernel_rfl) h2
  · obtain ⟨a, s, hv, _, _, _⟩ := laid_sentinel h5 (g := 1) (by kernel_rfl) (by kernel_rfl) Tryz.underlying48 row_es Tryz.underlying119 Tryz.underlying121 rfl rfl Tryz.underlying9 (by kernel_rfl) (by kernel_rfl)
    exact ⟨_, _, World.var?_cell (by kernel_rfl) hv 0⟩
  · obtain ⟨a, s, hv, _, _, _⟩ := laid_sentinel h4 (g := 2) (by kernel_rfl) (by kernel_rfl) Tryz.underlying48 row_es Tryz.underlying119 Tryz.underlying121 rfl rfl Tryz.underlying9 (by kernel_rfl) (by kernel_rfl)
    exact ⟨_, _, World.var?_cell (by kernel_rfl) hv 0⟩
/-- A row whose laid variables are met, and whose world is shaped. -/
theorem handed_shape {H : Type} {enc : TypeId × Value → H} {a : Assume} {C : Checked} {os : Os} {f : FuncId} {fn : Func} {s : ChangeSpec} {conds : List PathCond} {apart fresh handsOn again : Bool} {X : World → Array Value → Prop}
    (hX : ∀ (u u' : World) (r : Array Value), u.heap = u'.heap → X u r → X u' r)
    (own : ownKnob C.prog.godebug = none) (started : os.Started) (noInit : C.prog.inits.idxOf? f = none) (hfn : C.prog.funcs[f]? = some fn)
    (wit : ∃ (u : World) (tape : Tape) (i : Input), u.os = os ∧ (u.forCall tape i).Shaped C.prog ∧ i.vars = [] ∧ Input.okWide C.prog (u.forCall tape i) .any u.heap.size f i ∧
      ((s.pre enc C.prog fn conds apart (u.forCall tape i).memory i.args ∧ X (u.forCall tape i).memory i.args) ∧ sizedMet enc C.prog fn (OpenSpec.ofChange s) apart (u.forCall tape i).memory i.args) ∧ a.holds C.prog (lone (Frame.enter C.prog f i.args .normal) [] (u.forCall tape i)))
    (con : ∀ (W : World) (base : Nat) (r : Array Value) (ds gs : List (DataW H)) (before : List MemPlace), W.ShapedOpen C.prog → X W r →
      (∀ (j : Nat) t v, fn.params[j]? = some t → r[j]? = some v → Value.okWide C.prog W .any base t v) →
      DataW.Whole enc C.prog fn.params.toList s.vars apart W r.toList ds gs before →
      Calls C.prog f r W fun e W' => ∃ v, e = .returned v ∧ s.post enc C.prog fn apart fresh handsOn again W r v W') :
    ReturnsInHanded a C os f .any (fun u r => (s.pre enc C.prog fn conds apart u r ∧ X u r) ∧ sizedMet enc C.prog fn (OpenSpec.ofChange s) apart u r) (s.post enc C.prog fn apart fresh handsOn again) :=
  returnsInHanded_of_calls own started noInit wit fun u tape i _ shape _ ok pre _ => by
    obtain ⟨_, _, _, fn', h1, _, _, _, _, val⟩ := ok
    obtain rfl : fn' = fn := Option.some.inj (h1.symm.trans hfn)
    obtain ⟨⟨⟨ds, gs, before, whole, _⟩, met⟩, _⟩ := pre
    refine (con _ u.heap.size i.args ds gs before shape (hX _ (u.forCall tape i) _ (by rfl) met) val (DataW.Whole.of_heap (w' := u.forCall tape i) (by rfl) whole)).mono ?_
    rintro e W' ⟨v, rfl, post⟩
    exact ChangeSpec.post_blind post
end Go.Proofs.YtfkifcjjkaenhaaGreatDoor
