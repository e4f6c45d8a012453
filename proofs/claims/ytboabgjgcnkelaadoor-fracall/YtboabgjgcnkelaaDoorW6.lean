import Derived.Test.YtboabgjgcnkelaaDoorW5
namespace Go.Proofs.YtboabgjgcnkelaaDoor
open Go.RowKit Go.Shelf

end Go.Proofs.YtboabgjgcnkelaaDoor
