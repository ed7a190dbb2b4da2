/- The program's value is what the laws ask. -/
import Derived.Test.YtjbjfoingpnlmaaVOk
import Derived.Test.YtjbjfoingpnlmaaVWk2
import Derived.Test.YtjbjfoingpnlmaaVDrp
import Derived.Test.YtjbjfoingpnlmaaVPu2
import Derived.Test.YtjbjfoingpnlmaaVCm2
namespace Go.Proofs.Ytjbjfoingpnlmaa
open Go.RowKit
set_option linter.unusedVariables false

theorem put_all (c cx : VC) (l : List VT) (tx : VT) (key : ByteArray) (w : World) (hv : ValIs w (.mk c.k c.n c.s l) c) (hvx : ValIs w tx cx) (hsz : sizL l ≤ 100000000) (hkey : key.size ≤ maxLen) :
    Calls Try.prog 21 #[c.val, .string key, cx.val] w (TreeTo w (putT (.mk c.k c.n c.s l) key tx)) := by
  by_cases h7 : c.k = 7
  · cases hf : findL key l with
    | none => exact put_none c cx l tx key w hv hvx hsz hkey h7 hf
    | some j => exact put_some c cx l tx key w hv hvx hsz hkey (.inr ⟨h7, j, hf⟩)
  · exact put_some c cx l tx key w hv hvx hsz hkey (.inl h7)
theorem val_ok : ValOk where
  check := fun t c w hv hs => check_any t c w hv hs
  depth := fun t c w hv hs => depth_any t c w hv hs
  compare := fun t t' c c' w hv hv' _ _ => cmp_any t t' c c' w hv hv'
  same := fun t t' c c' w hv hv' _ _ => same_any t t' c c' w hv hv'
  get := fun c l key w hv hs _ => get_any c l key w hv (by omega)
  put := fun c cx l tx key w hv hvx hs _ hk => put_all c cx l tx key w hv hvx (by omega) hk
  drop := fun c l key w hv hs _ => drop_any c l key w hv (by omega)
  works := works_any11
end Go.Proofs.Ytjbjfoingpnlmaa
