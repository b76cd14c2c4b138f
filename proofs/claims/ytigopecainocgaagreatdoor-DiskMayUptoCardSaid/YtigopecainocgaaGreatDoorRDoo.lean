/- Proved here: Do of puncheonref06, for every operation: its ways put together. -/
import Derived.Test.YtigopecainocgaaGreatDoorRDoo6
import Derived.Test.YtigopecainocgaaGreatDoorRDoo3
import Derived.Test.YtigopecainocgaaGreatDoorRDoo7
set_option maxRecDepth 100000
set_option maxHeartbeats 32000000
namespace Go.Proofs.YtigopecainocgaaGreatDoor
open Go.RowKit Go.Shelf
theorem rdo_any (l : List It) (v : Value) (o : Opn) (w : World) (hv : RdI w v l) (h : TreeOk l) (hso : o.path.length ≤ 2000000 ∧ o.to.length ≤ 2000000) (r : Except Int (List It)) (hr : doR l o = r) :
  Calls Tryz.prog 52 #[.agg #[v],.agg #[.int .i64 o.kind,.string ⟨o.path.toArray⟩,.string ⟨o.to.toArray⟩,.string ⟨o.data.toArray⟩]] w (TreeE r w):=by
 by_cases k6 : o.kind = 6
 ·exact rdo_k6 l v o w hv h k6 hso r hr
 ·by_cases k7 : o.kind = 7
  ·exact rdo_k7 l v o w hv h k7 hso r hr
  ·by_cases k3 : o.kind = 3
   ·exact rdo_k3 l v o w hv h k3 hso r hr
   ·exact rdo_k1245 l v o w hv h ⟨k3,k6,k7⟩ hso r hr
end Go.Proofs.YtigopecainocgaaGreatDoor
